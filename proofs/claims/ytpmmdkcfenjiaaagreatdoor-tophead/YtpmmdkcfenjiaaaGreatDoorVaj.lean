import Derived.Test.YtpmmdkcfenjiaaaGreatDoorVaf
set_option maxRecDepth 100000
set_option maxHeartbeats 2000000
namespace Go.Proofs.YtpmmdkcfenjiaaaGreatDoor
namespace Bd
structure P where
 ord:Nat->Nat
 tk:Nat->Bool
def sz (k:Nat):Nat:=2^(k-1)
theorem mL {M:Nat->Nat->Prop}(h1:M 1 1)(h2:M 2 2)(h3:M 3 4)(h4:M 4 8)(h5:M 5 16)(h6:M 6 32)(h7:M 7 64)(k:Nat)(a:1<=k)(b:k<=7):M k (sz k):=by
 match k,a,b with
 |1,_,_=>exact h1
 |2,_,_=>exact h2
 |3,_,_=>exact h3
 |4,_,_=>exact h4
 |5,_,_=>exact h5
 |6,_,_=>exact h6
 |7,_,_=>exact h7
theorem mH {k:Nat}(h:1<=k):sz (k+1)=2*sz k:=by
 unfold sz;obtain⟨j,rfl⟩: ∃j,k=j+1:=⟨k-1,by omega⟩;rw[aP,aP,Nat.pow_succ];omega
theorem qq (k:Nat):0<sz k:=Nat.two_pow_pos _
def bT (i s:Nat):Nat:=if i/s%2=1 then i-s else i+s
structure Inv (b:P):Prop where
 le: ∀i,i<64->b.ord i<=7
 al: ∀i,i<64->0<b.ord i->i%sz (b.ord i)=0/\i+sz (b.ord i)<=64
 own: ∀i j,i<64->0<b.ord i->i<j->j<i+sz (b.ord i)->b.ord j=0
 Af: ∀j,j<64-> ∃i,i<=j/\0<b.ord i/\j<i+sz (b.ord i)
 tk: ∀i,i<64->b.tk i=true->0<b.ord i
def NB (b:P)(e:Nat):Prop:= ∀i,i<64->0<b.ord i->b.ord i<7->b.tk i=false->i≠e->bT i (sz (b.ord i))≠e-> ¬(b.ord (bT i (sz (b.ord i)))=b.ord i/\b.tk (bT i (sz (b.ord i)))=false)
def up (f:Nat->Nat)(i v:Nat):Nat->Nat:=fun j=>if j=i then v else f j
def lZ (f:Nat->Bool)(i:Nat)(v:Bool):Nat->Bool:=fun j=>if j=i then v else f j
def half (b:P)(i:Nat):P:={b with ord:=up (up b.ord i (b.ord i-1)) (i+sz (b.ord i-1)) (b.ord i-1)}
def join (b:P)(lo hi:Nat):P:={b with ord:=up (up b.ord hi 0) lo (b.ord lo+1)}
section
variable {b : P}
theorem yn {i s:Nat}{k:Nat}(hk:1<=k)(hk6:k<=6)(hs:s=sz k)(h:i%sz (k+1)=0):i%s=0/\(i+s)%s=0/\bT (i+s) s=i/\bT i s=i+s:=by
 rw[mH hk,<-hs]at h;have: ∀k,1<=k->k<=7-> ∀i,i%(2*sz k)=0->i%sz k=0/\(i+sz k)%sz k=0/\bT (i+sz k) (sz k)=i/\bT i (sz k)=i+sz k:=by
  refine mL (M:=fun _ s=> ∀i,i%(2*s)=0->i%s=0/\(i+s)%s=0/\bT (i+s) s=i/\bT i s=i+s) ?_ ?_ ?_ ?_ ?_ ?_ ?_
  all_goals
   intro i hi;unfold bT;refine⟨by omega,by omega,?_,?_⟩
   ·rw[aJ (by omega)];omega
   ·rw[aI (by omega)]
 rw[hs]at h|-;exact this k hk (by omega) i h
theorem tg {i k:Nat}(hk:1<=k)(hk6:k<=6)(h:i%sz k=0):bT (bT i (sz k)) (sz k)=i/\(bT i (sz k))%sz k=0/\bT i (sz k)≠i:=by
 have: ∀k,1<=k->k<=7-> ∀i,i%sz k=0->bT (bT i (sz k)) (sz k)=i/\(bT i (sz k))%sz k=0/\bT i (sz k)≠i:=by
  refine mL (M:=fun _ s=> ∀i,i%s=0->bT (bT i s) s=i/\(bT i s)%s=0/\bT i s≠i) ?_ ?_ ?_ ?_ ?_ ?_ ?_
  all_goals
   intro i hi;refine⟨?_,?_,?_⟩<;>(unfold bT;repeat' split)<;>omega
 exact this k hk (by omega) i h
theorem OZ {i k:Nat}(hk:1<=k)(hk6:k<=6)(h:i%sz k=0):(min i (bT i (sz k)))%sz (k+1)=0/\max i (bT i (sz k))=min i (bT i (sz k))+sz k:=by
 rw[mH hk];have: ∀k,1<=k->k<=7-> ∀i,i%sz k=0->(min i (bT i (sz k)))%(2*sz k)=0/\max i (bT i (sz k))=min i (bT i (sz k))+sz k:=by
  refine mL (M:=fun _ s=> ∀i,i%s=0->(min i (bT i s))%(2*s)=0/\max i (bT i s)=min i (bT i s)+s) ?_ ?_ ?_ ?_ ?_ ?_ ?_
  all_goals
   intro i hi;refine⟨?_,?_⟩<;>(unfold bT;split)<;>omega
 exact this k hk (by omega) i h
theorem Inv.half (h:Inv b){i:Nat}(hi:i<64)(ho:2<=b.ord i)(ht:b.tk i=false):Inv (half b i)/\(half b i).ord i=b.ord i-1/\(half b i).tk=b.tk:=by
 obtain⟨k,hk⟩: ∃k,b.ord i=k+1:=⟨b.ord i-1,by omega⟩;have hk1:1<=k:=by omega
 have hle:=h.le i hi;have al:=h.al i hi (by omega);rw[hk]at al;have ah:=yn hk1 (by omega) rfl al.1;have hs:=mH hk1;have sp:=qq k;obtain⟨s,es⟩:=nJ (sz k);have own:=h.own i;rw[hk]at own;have eo: ∀x,(Bd.half b i).ord x=if x=i+s then k else if x=i then k else b.ord x:=fun x=>by
  unfold Bd.half up;rw[hk,aP,es]
 rw[es]at ah hs sp;have ei:(Bd.half b i).ord i=k:=by rw[eo,aI (by omega),aJ rfl]
 have eu:(Bd.half b i).ord (i+s)=k:=by rw[eo,aJ rfl]
 have en: ∀x,x≠i->x≠i+s->(Bd.half b i).ord x=b.ord x:=fun x h1 h2=>by rw[eo,aI h2,aI h1]
 have ou:b.ord (i+s)=0:=own (i+s) hi (by omega) (by omega) (by omega);refine⟨⟨fun x hx=>?_,fun x hx h0=>?_,fun x y hx h0 h1 h2=>?_,fun y hy=>?_,fun x hx h0=>?_⟩,by rw[ei,hk];rfl,rfl⟩
 ·by_cases c1:x=i
  ·rw[c1,ei];omega
  ·by_cases c2:x=i+s
   ·rw[c2,eu];omega
   ·rw[en x c1 c2];exact h.le x hx
 ·by_cases c1:x=i
  ·rw[c1,ei,es];exact⟨ah.1,by omega⟩
  ·by_cases c2:x=i+s
   ·rw[c2,eu,es];exact⟨ah.2.1,by omega⟩
   ·rw[en x c1 c2]at h0|-;exact h.al x hx h0
 ·by_cases c1:x=i
  ·rw[c1,ei,es]at h2;rw[en y (by omega) (by omega)];exact own y hi (by omega) (by omega) (by omega)
  ·by_cases c2:x=i+s
   ·rw[c2,eu,es]at h2;rw[en y (by omega) (by omega)];exact own y hi (by omega) (by omega) (by omega)
   ·rw[en x c1 c2]at h0 h2;have hy:=h.own x y hx h0 h1 h2;by_cases c3:y=i
    ·rw[c3,hk]at hy;omega
    ·by_cases c4:y=i+s
     ·exfalso;by_cases c5:x<i
      ·have:=h.own x i hx h0 c5 (by omega);omega
      ·have:=own x hi (by omega) (by omega) (by omega);omega
     ·rw[en y c3 c4];exact hy
 ·obtain⟨a,a1,a2,a3⟩:=h.Af y hy;by_cases c1:a=i
  ·rw[c1,hk]at a3;by_cases c:y<i+s
   ·exact⟨i,by omega,by rw[ei];omega,by rw[ei,es];exact c⟩
   ·exact⟨i+s,by omega,by rw[eu];omega,by rw[eu,es];omega⟩
  ·have c2:a≠i+s:=fun c=>by rw[c,ou]at a2;omega
   exact⟨a,a1,by rw[en a c1 c2];exact a2,by rw[en a c1 c2];exact a3⟩
 ·have h0':b.tk x=true:=h0;have:=h.tk x hx h0';by_cases c1:x=i
  ·rw[c1,ht]at h0';cases h0'
  ·by_cases c2:x=i+s
   ·rw[c2,eu];omega
   ·rw[en x c1 c2];exact this
theorem NB.half (h:Inv b){i:Nat}(hi:i<64)(ho:2<=b.ord i)(n:NB b i):NB (half b i) i:=by
 obtain⟨k,hk⟩: ∃k,b.ord i=k+1:=⟨b.ord i-1,by omega⟩;have hk1:1<=k:=by omega
 have hle:=h.le i hi;have al:=h.al i hi (by omega);rw[hk]at al;have ah:=yn hk1 (by omega) rfl al.1;have sp:=qq k;obtain⟨s,es⟩:=nJ (sz k);rw[es]at ah sp;have eo: ∀x,(Bd.half b i).ord x=if x=i+s then k else if x=i then k else b.ord x:=fun x=>by
  unfold Bd.half up;rw[hk,aP,es]
 have eu:(Bd.half b i).ord (i+s)=k:=by rw[eo,aJ rfl]
 have en: ∀x,x≠i->x≠i+s->(Bd.half b i).ord x=b.ord x:=fun x h1 h2=>by rw[eo,aI h2,aI h1]
 intro x hx h0 h7 ht hxi hbi;by_cases c2:x=i+s
 ·rw[c2,eu,es,ah.2.2.1]at hbi;exact aZ rfl hbi
 ·rw[en x hxi c2]at h0 h7 hbi|-;by_cases c3:bT x (sz (b.ord x))=i+s
  ·rw[c3,eu];rintro⟨e1,_⟩;have bb:=tg (i:=x) (k:=b.ord x) (by omega) (by omega) (h.al x hx h0).1;rw[c3,<-e1,es,ah.2.2.1]at bb;exact hxi bb.1.symm
  ·rw[en _ hbi c3];exact n x hx h0 h7 ht hxi hbi
theorem Inv.join (h:Inv b){at_:Nat}(hi:at_<64)(h0:0<b.ord at_)(h7:b.ord at_<7)(ht:b.tk at_=false)(ho:b.ord (bT at_ (sz (b.ord at_)))=b.ord at_)(ht2:b.tk (bT at_ (sz (b.ord at_)))=false):
  Inv (join b (min at_ (bT at_ (sz (b.ord at_)))) (max at_ (bT at_ (sz (b.ord at_)))))/\min at_ (bT at_ (sz (b.ord at_)))<64/\(join b (min at_ (bT at_ (sz (b.ord at_)))) (max at_ (bT at_ (sz (b.ord at_))))).ord (min at_ (bT at_ (sz (b.ord at_))))=b.ord at_+1/\b.tk (min at_ (bT at_ (sz (b.ord at_))))=false:=by
 obtain⟨k,hk⟩:=nJ (b.ord at_);rw[hk]at h0 h7 ho ht2|-;have al:=h.al at_ hi (by omega);rw[hk]at al;have bl:=OZ h0 (by omega) al.1;have hs:=mH h0;have sp:=qq k;obtain⟨hf,ehf⟩:=nJ (bT at_ (sz k));obtain⟨s,es⟩:=nJ (sz k);rw[ehf]at ho ht2 bl|-;obtain⟨lo,elo⟩:=nJ (min at_ hf);obtain⟨hh,ehh⟩:=nJ (max at_ hf);rw[elo,ehh]at bl|-;rw[es]at bl hs sp;have lo64:lo<64:=by omega
 have ol:b.ord lo=k/\b.tk lo=false:=by
  by_cases c:lo=at_
  ·rw[c];exact⟨hk,ht⟩
  ·rw[show lo=hf by omega];exact⟨ho,ht2⟩
 have oh:b.ord hh=k/\b.tk hh=false:=by
  by_cases c:hh=at_
  ·rw[c];exact⟨hk,ht⟩
  ·rw[show hh=hf by omega];exact⟨ho,ht2⟩
 have hh64:hh+s<=64:=by
  have a2:=al.2;rw[es]at a2;by_cases c:hh=at_
  ·rw[c];exact a2
  ·have:lo=at_:=by omega
   rw[hs]at bl;have l64:lo%(2*s)=0:=bl.1;have key: ∀k,1<=k->k<=7->k<=6-> ∀x,x<64->x%(2*sz k)=0->x+2*sz k<=64:=by
    refine mL (M:=fun k s=>k<=6-> ∀x,x<64->x%(2*s)=0->x+2*s<=64) ?_ ?_ ?_ ?_ ?_ ?_ ?_
    all_goals
     intro hk x hx hm;omega
   have:=key k h0 (by omega) (by omega) lo lo64 (by rw[es];exact l64);rw[es]at this;omega
 have eo: ∀x,(Bd.join b lo hh).ord x=if x=lo then k+1 else if x=hh then 0 else b.ord x:=fun x=>by
  unfold Bd.join up;rw[ol.1]
 have el:(Bd.join b lo hh).ord lo=k+1:=by rw[eo,aJ rfl]
 have eh:(Bd.join b lo hh).ord hh=0:=by rw[eo,aI (by omega),aJ rfl]
 have en: ∀x,x≠lo->x≠hh->(Bd.join b lo hh).ord x=b.ord x:=fun x h1 h2=>by rw[eo,aI h1,aI h2]
 refine⟨⟨fun x hx=>?_,fun x hx x0=>?_,fun x y hx x0 h1 h2=>?_,fun y hy=>?_,fun x hx x0=>?_⟩,lo64,el,ol.2⟩
 ·by_cases c1:x=lo
  ·rw[c1,el];omega
  ·by_cases c2:x=hh
   ·rw[c2,eh];omega
   ·rw[en x c1 c2];exact h.le x hx
 ·by_cases c1:x=lo
  ·rw[c1,el];exact⟨bl.1,by rw[hs];omega⟩
  ·by_cases c2:x=hh
   ·rw[c2,eh]at x0;omega
   ·rw[en x c1 c2]at x0|-;exact h.al x hx x0
 ·by_cases c1:x=lo
  ·rw[c1,el,hs]at h2;by_cases c2:y=hh
   ·rw[c2,eh]
   ·rw[en y (by omega) c2];by_cases c3:y<hh
    ·exact h.own lo y lo64 (by omega) (by omega) (by rw[ol.1,es];omega)
    ·exact h.own hh y (by omega) (by omega) (by omega) (by rw[oh.1,es];omega)
  ·by_cases c2:x=hh
   ·rw[c2,eh]at x0;omega
   ·rw[en x c1 c2]at x0 h2;have hy:=h.own x y hx x0 h1 h2;by_cases c3:y=lo
    ·rw[c3,ol.1]at hy;omega
    ·by_cases c4:y=hh
     ·rw[c4,eh]
     ·rw[en y c3 c4];exact hy
 ·obtain⟨a,a1,a2,a3⟩:=h.Af y hy;by_cases c1:a=lo
  ·rw[c1,ol.1,es]at a3;exact⟨lo,by omega,by rw[el];omega,by rw[el,hs];omega⟩
  ·by_cases c2:a=hh
   ·rw[c2,oh.1,es]at a3;exact⟨lo,by omega,by rw[el];omega,by rw[el,hs];omega⟩
   ·exact⟨a,a1,by rw[en a c1 c2];exact a2,by rw[en a c1 c2];exact a3⟩
 ·have x0':b.tk x=true:=x0;by_cases c1:x=lo
  ·rw[c1,el];omega
  ·by_cases c2:x=hh
   ·rw[c2,oh.2]at x0';cases x0'
   ·rw[en x c1 c2];exact h.tk x hx x0'
theorem NB.join (h:Inv b){at_:Nat}(hi:at_<64)(h0:0<b.ord at_)(h7:b.ord at_<7)(n:NB b at_):
  NB (join b (min at_ (bT at_ (sz (b.ord at_)))) (max at_ (bT at_ (sz (b.ord at_))))) (min at_ (bT at_ (sz (b.ord at_)))):=by
 have bb:=tg (i:=at_) (k:=b.ord at_) h0 (by omega) (h.al at_ hi h0).1;obtain⟨hf,ehf⟩:=nJ (bT at_ (sz (b.ord at_)));rw[ehf]at bb|-;obtain⟨lo,elo⟩:=nJ (min at_ hf);obtain⟨hh,ehh⟩:=nJ (max at_ hf);rw[elo,ehh];have ne:=bb.2.2;have eo: ∀x,(Bd.join b lo hh).ord x=if x=lo then b.ord lo+1 else if x=hh then 0 else b.ord x:=fun x=>rfl;have eh:(Bd.join b lo hh).ord hh=0:=by rw[eo,aI (by omega),aJ rfl]
 have en: ∀x,x≠lo->x≠hh->(Bd.join b lo hh).ord x=b.ord x:=fun x h1 h2=>by rw[eo,aI h1,aI h2]
 intro x hx x0 x7 ht hxl hbl;have c2:x≠hh:=fun c=>by rw[c,eh]at x0;omega
 rw[en x hxl c2]at x0 x7 hbl|-;by_cases c3:bT x (sz (b.ord x))=hh
 ·rw[c3,eh];rintro⟨e,_⟩;omega
 ·rw[en _ hbl c3];exact n x hx x0 x7 ht (by omega) (by omega)
theorem NB.all {e:Nat}(n:NB b e)(he:e<64)(h:Inv b)(c:b.tk e=true\/b.ord e=0\/7<=b.ord e\/b.tk (bT e (sz (b.ord e)))=true\/b.ord (bT e (sz (b.ord e)))≠b.ord e):NB b 64:=by
 intro x hx x0 x7 ht _ _ hc;by_cases c1:x=e
 ·subst c1;rcases c with c|c|c|c|c
  ·rw[c]at ht;cases ht
  ·omega
  ·omega
  ·rw[hc.2]at c;cases c
  ·exact c hc.1
 ·by_cases c2:bT x (sz (b.ord x))=e
  ·rw[c2]at hc;have bb:=tg (i:=x) (k:=b.ord x) (by omega) (by omega) (h.al x hx x0).1;rw[c2,<-hc.1]at bb;rcases c with c|c|c|c|c
   ·rw[hc.2]at c;cases c
   ·rw[c]at hc;omega
   ·omega
   ·rw[bb.1,ht]at c;cases c
   ·rw[bb.1]at c;exact c hc.1.symm
  ·exact n x hx x0 x7 ht c1 c2 hc
end
end Bd
namespace Bd
structure xS (b:P)(o i:Nat):Prop where
 lt:i<64
 ord:o<b.ord i
 tk:b.tk i=false
 least: ∀j,j<64->o<b.ord j->b.tk j=false->b.ord i<b.ord j\/(b.ord i=b.ord j/\i<=j)
def parts (b:P)(i:Nat):Nat->P
 |0=>b
 |n+1=>parts (half b i) i n
def jr (b:P)(o i:Nat):P:={parts b i (b.ord i-(o+1))with tk:=lZ (parts b i (b.ord i-(o+1))).tk i true}
def oE (b:P)(z e:Int)(r:Nat)(b':P):Prop:=((z<0\/6<z)/\e=1/\r=0/\b'=b)\/(¬(z<0\/6<z)/\(∀j,j<64->z.toNat<b.ord j->b.tk j=true)/\e=4/\r=0/\b'=b)\/(¬(z<0\/6<z)/\xS b z.toNat r/\e=0/\b'=jr b z.toNat r)
def gw (b:P)(z:Int):Int:=if z<0\/63<z then 1 else if b.tk z.toNat=true then 0 else 2
def eV (b:P)(i:Nat):Bool:=decide (b.ord i<7)&&(decide (b.ord (bT i (sz (b.ord i)))=b.ord i)&& !b.tk (bT i (sz (b.ord i))))
def mT (b:P)(i:Nat):Nat->P
 |0=>b
 |n+1=>if eV b i=true then mT (join b (min i (bT i (sz (b.ord i)))) (max i (bT i (sz (b.ord i))))) (min i (bT i (sz (b.ord i)))) n else b
def ji (b:P)(i:Nat):P:=mT {b with tk:=lZ b.tk i false} i 7
def jN (b:P)(z:Int):P:=if gw b z=0 then ji b z.toNat else b
theorem yo {b:P}{i:Nat}(hi:i<64): ∀n,n<b.ord i->Inv b->b.tk i=false->NB b i->Inv (parts b i n)/\NB (parts b i n) i/\(parts b i n).ord i=b.ord i-n/\(parts b i n).tk=b.tk:=by
 intro n
 induction n generalizing b with
 |zero=>intro _ h1 _ h3;exact⟨h1,h3,rfl,rfl⟩
 |succ n ih=>
  intro hn h1 h2 h3;have a:=h1.half hi (by omega) h2;have r:=ih (b:=half b i) (by rw[a.2.1];omega) a.1 (by rw[a.2.2];exact h2) (h3.half h1 hi (by omega));refine⟨r.1,r.2.1,?_,?_⟩
  ·show(parts (half b i) i n).ord i=_;rw[r.2.2.1,a.2.1];omega
  ·show(parts (half b i) i n).tk=_;rw[r.2.2.2,a.2.2]
theorem NB.but {b:P}(n:NB b 64)(h:Inv b)(e:Nat):NB b e:=fun i hi h0 h7 ht _ _=>n i hi h0 h7 ht (by omega) (by
 have al:=h.al i hi h0;have key: ∀k,1<=k->k<=7->k<=6-> ∀x,x<64->x%sz k=0->bT x (sz k)≠64:=by
  refine mL (M:=fun k s=>k<=6-> ∀x,x<64->x%s=0->bT x s≠64) ?_ ?_ ?_ ?_ ?_ ?_ ?_
  all_goals
   intro hk x hx hm;unfold bT;split<;>omega
 exact key _ h0 (by omega) (by omega) i hi al.1)
theorem Inv.taken {b:P}(h:Inv b){i:Nat}(h0:0<b.ord i)(n:NB b i)(hi:i<64):Inv {b with tk:=lZ b.tk i true}/\NB {b with tk:=lZ b.tk i true} 64:=by
 refine⟨⟨h.le,h.al,h.own,h.Af,fun x hx hx0=>?_⟩,?_⟩
 ·by_cases c:x=i
  ·rw[c];exact h0
  ·have:(if x=i then true else b.tk x)=true:=hx0;rw[aI c]at this;exact h.tk x hx this
 ·have n':NB {b with tk:=lZ b.tk i true} i:=fun x hx x0 x7 ht xi bi hc=>by
   have e1:b.tk x=false:=by
    have:(if x=i then true else b.tk x)=false:=ht;rw[aI xi]at this;exact this
   have e2:b.tk (bT x (sz (b.ord x)))=false:=by
    have:(if bT x (sz (b.ord x))=i then true else b.tk (bT x (sz (b.ord x))))=false:=hc.2;rw[aI bi]at this;exact this
   exact n x hx x0 x7 e1 xi bi ⟨hc.1,e2⟩
  have i':Inv {b with tk:=lZ b.tk i true}:=⟨h.le,h.al,h.own,h.Af,fun x hx hx0=>by
   by_cases c:x=i
   ·rw[c];exact h0
   ·have:(if x=i then true else b.tk x)=true:=hx0;rw[aI c]at this;exact h.tk x hx this⟩
  exact n'.all hi i' (.inl (by show(if i=i then true else b.tk i)=true;rw[aJ rfl]))
theorem Inv.jr {b:P}(h:Inv b)(n:NB b 64){o i:Nat}(k:xS b o i):Inv (jr b o i)/\NB (jr b o i) 64/\(jr b o i).ord i=o+1/\(jr b o i).tk i=true/\i%sz (o+1)=0/\ ∀j,j≠i->(Bd.jr b o i).tk j=b.tk j:=by
 have hb:=k.ord;have r:=yo k.lt (b.ord i-(o+1)) (by omega) h k.tk (n.but h i);have eo:(parts b i (b.ord i-(o+1))).ord i=o+1:=by rw[r.2.2.1];omega
 have t:=r.1.taken (by rw[eo];omega) r.2.1 k.lt;refine⟨t.1,t.2,eo,?_,?_,fun j hj=>?_⟩
 ·show(if i=i then true else _)=true;rw[aJ rfl]
 ·have:=(r.1.al i k.lt (by rw[eo];omega)).1;rw[eo]at this;exact this
 ·show(if j=i then true else(parts b i (b.ord i-(o+1))).tk j)=_;rw[aI hj,r.2.2.2]
theorem Inv.take {b b':P}(h:Inv b)(n:NB b 64){z e:Int}{r:Nat}(k:oE b z e r b'):Inv b'/\NB b' 64:=by
 rcases k with⟨_,_,_,rfl⟩|⟨_,_,_,_,rfl⟩|⟨_,k,_,rfl⟩
 ·exact⟨h,n⟩
 ·exact⟨h,n⟩
 ·have:=h.jr n k;exact⟨this.1,this.2.1⟩
theorem Ge: ∀(n:Nat) {b:P} {i:Nat},i<64->0<b.ord i->7<=b.ord i+n->Inv b->b.tk i=false->NB b i->Inv (mT b i n)/\NB (mT b i n) 64/\(mT b i n).tk=b.tk:=by
 intro n
 induction n with
 |zero=>intro b i hi h0 hn h1 h2 h3;exact⟨h1,h3.all hi h1 (.inr (.inr (.inl (by omega)))),rfl⟩
 |succ n ih=>
  intro b i hi h0 hn h1 h2 h3;show Inv (if eV b i=true then _ else b)/\NB (if eV b i=true then _ else b) 64/\(if eV b i=true then _ else b).tk=b.tk;by_cases c:eV b i=true
  ·rw[aJ c];unfold eV at c;simp only[Bool.and_eq_true,decide_eq_true_eq,Bool.not_eq_true']at c;have a:=h1.join hi h0 c.1 h2 c.2.1 c.2.2;have r:=ih (b:=join b (min i (bT i (sz (b.ord i)))) (max i (bT i (sz (b.ord i))))) (i:=min i (bT i (sz (b.ord i)))) a.2.1 (by rw[a.2.2.1];omega) (by rw[a.2.2.1];omega) a.1 a.2.2.2 (h3.join h1 hi h0 c.1);exact⟨r.1,r.2.1,r.2.2⟩
  ·rw[aI c];refine⟨h1,h3.all hi h1 ?_,rfl⟩;by_cases c1:b.ord i<7
   ·by_cases c2:b.ord (bT i (sz (b.ord i)))=b.ord i
    ·refine .inr (.inr (.inr (.inl ?_)));cases c3:b.tk (bT i (sz (b.ord i)))
     ·exact aZ (by unfold eV;simp[c1,c2,c3]) c
     ·rfl
    ·exact .inr (.inr (.inr (.inr c2)))
   ·exact .inr (.inr (.inl (by omega)))
theorem Inv.ji {b:P}(h:Inv b)(n:NB b 64){i:Nat}(hi:i<64)(ht:b.tk i=true):Inv (ji b i)/\NB (ji b i) 64/\(ji b i).tk=lZ b.tk i false:=by
 have h0:=h.tk i hi ht;have i':Inv {b with tk:=lZ b.tk i false}:=⟨h.le,h.al,h.own,h.Af,fun x hx hx0=>by
  have:(if x=i then false else b.tk x)=true:=hx0;by_cases c:x=i
  ·rw[aJ c]at this;cases this
  ·rw[aI c]at this;exact h.tk x hx this⟩
 have n':NB {b with tk:=lZ b.tk i false} i:=fun x hx x0 x7 htx xi bi hc=>by
  have e1:b.tk x=false:=by
   have:(if x=i then false else b.tk x)=false:=htx;rw[aI xi]at this;exact this
  have e2:b.tk (bT x (sz (b.ord x)))=false:=by
   have:(if bT x (sz (b.ord x))=i then false else b.tk (bT x (sz (b.ord x))))=false:=hc.2;rw[aI bi]at this;exact this
  exact(n.but h i) x hx x0 x7 e1 xi bi ⟨hc.1,e2⟩
 exact Ge 7 (b:={b with tk:=lZ b.tk i false}) hi h0 (by omega) i' (by show(if i=i then false else b.tk i)=false;rw[aJ rfl]) n'
theorem Inv.NF {b:P}(h:Inv b)(n:NB b 64)(z:Int):Inv (jN b z)/\NB (jN b z) 64:=by
 unfold jN;by_cases c:gw b z=0
 ·rw[aJ c];unfold gw at c;by_cases c1:z<0\/63<z
  ·rw[aJ c1]at c;omega
  ·rw[aI c1]at c;by_cases c2:b.tk z.toNat=true
   ·have:=h.ji n (by omega) c2;exact⟨this.1,this.2.1⟩
   ·rw[aI c2]at c;omega
 ·rw[aI c];exact⟨h,n⟩
def b0:P:=⟨fun i=>if i=0 then 7 else 0,fun _=>false⟩
theorem uU:Inv b0/\NB b0 64:=by
 have e: ∀i,0<b0.ord i->i=0:=fun i h=>by
  by_cases c:i=0
  ·exact c
  ·have:(if i=0 then 7 else 0)>0:=h;rw[aI c]at this;omega
 refine⟨⟨fun i _=>?_,fun i _ h0=>?_,fun i j _ h0 h1 _=>?_,fun j hj=>⟨0,by omega,by decide,by show j<0+sz 7;have:sz 7=64:=rfl;omega⟩,fun i _ h=>by cases h⟩,fun i _ h0 h7=>?_⟩
 ·show(if i=0 then 7 else 0)<=7;split<;>omega
 ·rw[e i h0];exact⟨by decide,by decide⟩
 ·show(if j=0 then 7 else 0)=0;rw[aI (by omega)]
 ·rw[e i h0]at h7;exact aZ h7 (by decide)
end Bd
open Go.RowKit
open Bd (P)
def wO (p:P)(o j:Nat):Prop:=o<p.ord j/\p.tk j=false
def iu (p:P)(o k:Nat)(z:Int):Prop:=(z= -1/\ ∀j,k<=j->j<64-> ¬wO p o j)\/ ∃x:Nat,z=x/\k<=x/\x<64/\wO p o x/\ ∀j,k<=j->j<64->wO p o j->p.ord x<p.ord j\/(p.ord x=p.ord j/\x<=j)
theorem iu.skip {p:P}{o k:Nat}{z:Int}(h:iu p o (k+1) z)(c: ¬wO p o k):iu p o k z:=by
 rcases h with⟨h1,h2⟩|⟨x,h1,h2,h3,h4,h5⟩
 ·exact .inl ⟨h1,fun j a b=>by
  by_cases e:j=k
  ·rw[e];exact c
  ·exact h2 j (by omega) b⟩
 ·exact .inr ⟨x,h1,by omega,h3,h4,fun j a b d=>by
  by_cases e:j=k
  ·rw[e]at d;exact aZ d c
  ·exact h5 j (by omega) b d⟩
theorem iu.take {p:P}{o k:Nat}{z:Int}(h:iu p o (k+1) z)(hk:k<64)(c:wO p o k)(d:z= -1\/ ∃x:Nat,z=x/\p.ord k<=p.ord x):iu p o k k:=by
 refine .inr ⟨k,rfl,aL _,hk,c,fun j a b e=>?_⟩;by_cases ej:j=k
 ·subst ej;exact .inr ⟨rfl,aL _⟩
 ·rcases h with⟨h1,h2⟩|⟨x,h1,h2,h3,h4,h5⟩
  ·exact aZ e (h2 j (by omega) b)
  ·have:=h5 j (by omega) b e;rcases d with d|⟨y,d1,d2⟩
   ·omega
   ·obtain rfl:y=x:=by omega
    omega
theorem iu.iC {p:P}{o k x:Nat}(h:iu p o (k+1) x)(d:p.ord x<p.ord k):iu p o k x:=by
 rcases h with⟨h1,_⟩|⟨y,h1,h2,h3,h4,h5⟩
 ·omega
 ·obtain rfl:y=x:=by omega
  exact .inr ⟨y,rfl,by omega,h3,h4,fun j a b e=>by
   by_cases ej:j=k
   ·rw[ej];exact .inl d
   ·exact h5 j (by omega) b e⟩
theorem iu.done {p:P}{o:Nat}{z:Int}(h:iu p o 0 z):(z= -1/\ ∀j,j<64->o<p.ord j->p.tk j=true)\/ ∃x:Nat,z=x/\Bd.xS p o x:=by
 rcases h with⟨h1,h2⟩|⟨x,h1,_,h3,h4,h5⟩
 ·refine .inl ⟨h1,fun j hj ho=>?_⟩;cases c:p.tk j
  ·exact aZ ⟨ho,c⟩ (h2 j (by omega) hj)
  ·rfl
 ·exact .inr ⟨x,h1,h3,h4.1,h4.2,fun j hj ho ht=>h5 j (by omega) hj ⟨ho,ht⟩⟩
def oB (w:bD)(b o:Nat):Nat:=match w.cell? ⟨b,o,none⟩with|some v=>(intOf v).toNat|none=>0
theorem qX {w:bD}{b o n:Nat}(h:w.cell? ⟨b,o,none⟩=some (.int .i64 (n:Int))):oB w b o=n:=by unfold oB;rw[h];rfl
theorem Ft (p:P)(i n:Nat):Bd.parts p i (n+1)=Bd.half (Bd.parts p i n) i:=by
 induction n generalizing p with
 |zero=>rfl
 |succ n ih=>show Bd.parts (Bd.half p i) i (n+1)=_;rw[ih];rfl
theorem FZ (x s:Nat):((x:Int)+(s:Int)).toNat=x+s:=by omega
section
attribute [local go_sem] FZ
end
namespace Bd
theorem IB {i k:Nat}(hk:1<=k)(hk6:k<=6)(hi:i<64)(h:i%sz k=0):bT i (sz k)<64/\(i/sz k%2=1->sz k<=i):=by
 have key: ∀k,1<=k->k<=7->k<=6-> ∀x,x<64->x%sz k=0->bT x (sz k)<64/\(x/sz k%2=1->sz k<=x):=by
  refine mL (M:=fun k s=>k<=6-> ∀x,x<64->x%s=0->bT x s<64/\(x/s%2=1->s<=x)) ?_ ?_ ?_ ?_ ?_ ?_ ?_
  all_goals
   intro hk x hx hm;refine⟨?_,fun c=>by omega⟩;unfold bT;split<;>omega
 exact key k hk (by omega) hk6 i hi h
theorem I0 {p:P}{i:Nat}(h:eV p i=false)(n:Nat):mT p i n=p:=by
 cases n with
 |zero=>rfl
 |succ n=>show(if eV p i=true then _ else p)=p;rw[h,aI (by decide)]
theorem Ip {p:P}{i:Nat}(h:eV p i=true)(n:Nat):mT p i (n+1)=mT (join p (min i (bT i (sz (p.ord i)))) (max i (bT i (sz (p.ord i))))) (min i (bT i (sz (p.ord i)))) n:=by
 show(if eV p i=true then _ else p)=_;rw[aJ h]
structure xd (q:P)(i n:Nat)(G:P):Prop where
 inv:Inv q
 lt:i<64
 pos:0<q.ord i
 tk:q.tk i=false
 fu:7<=q.ord i+n
 eq:mT q i n=G
theorem xd.start {p:P}(h:Inv p){i:Nat}(hi:i<64)(ht:p.tk i=true):xd {p with tk:=lZ p.tk i false} i 7 (ji p i):=by
 refine⟨⟨h.le,h.al,h.own,h.Af,fun x hx hx0=>?_⟩,hi,h.tk i hi ht,?_,by omega,rfl⟩
 ·have:(if x=i then false else p.tk x)=true:=hx0;by_cases c:x=i
  ·rw[aJ c]at this;cases this
  ·rw[aI c]at this;exact h.tk x hx this
 ·show(if i=i then false else p.tk i)=false;rw[aJ rfl]
theorem xd.next {q G:P}{i n:Nat}(h:xd q i (n+1) G)(f:eV q i=true):xd (join q (min i (bT i (sz (q.ord i)))) (max i (bT i (sz (q.ord i))))) (min i (bT i (sz (q.ord i)))) n G:=by
 have f':=f;unfold eV at f;simp only[Bool.and_eq_true,decide_eq_true_eq,Bool.not_eq_true']at f;have a:=h.inv.join h.lt h.pos f.1 h.tk f.2.1 f.2.2;exact⟨a.1,a.2.1,by rw[a.2.2.1];omega,a.2.2.2,by rw[a.2.2.1];have:=h.fu;omega,by rw[<-h.eq,Ip f']⟩
end Bd
namespace Bd
def AS (z:Int):Int:=if z<0\/6<z then 1 else 0
def Lr (p:P):Nat->Nat
 |0=>0
 |k+1=>Lr p k+if 0<p.ord k/\p.tk k=false then sz (p.ord k)else 0
def left (p:P):Nat:=Lr p 64
end Bd
namespace Bd
def st (p:P)(i:Nat):Nat:=if p.ord i=0 then 0 else if p.tk i=true then 2 else 1
def od (p:P)(i:Nat):Nat:=p.ord i-1
theorem yl {p:P}{i:Nat}(h:0<p.ord i)(t:p.tk i=false):st p i=1:=by unfold st;rw[aI (by omega),aI (by rw[t];decide)]
theorem J2 {p:P}{i:Nat}(h:0<p.ord i)(t:p.tk i=true):st p i=2:=by unfold st;rw[aI (by omega),aJ t]
theorem Hw {p:P}{i:Nat}:st p i=1↔0<p.ord i/\p.tk i=false:=by
 constructor
 ·intro h;unfold st at h;by_cases c:p.ord i=0
  ·rw[aJ c]at h;omega
  ·rw[aI c]at h;cases t:p.tk i
   ·exact⟨by omega,rfl⟩
   ·rw[aJ t]at h;omega
 ·rintro⟨h1,h2⟩;exact yl h1 h2
theorem IT {p:P}(hI:Inv p){i:Nat}(hi:i<64):st p i=2↔p.tk i=true:=by
 constructor
 ·intro h;unfold st at h;by_cases c:p.ord i=0
  ·rw[aJ c]at h;omega
  ·rw[aI c]at h;cases t:p.tk i
   ·rw[aI (by rw[t];decide)]at h;omega
   ·rfl
 ·intro h;exact J2 (hI.tk i hi h) h
end Bd
structure CA (w:bD)(b:Nat)(s d:Nat->Nat):Prop where
 cv: ∃C,w.heap[b]? =some (.cells C 280 (0,0))/\C.size=128
 c0: ∀i,i<64->w.cell? ⟨b,i*2,none⟩=some (.int .i64 (s i:Int))
 c1: ∀i,i<64->w.cell? ⟨b,i*2+1,none⟩=some (.int .i64 (d i:Int))
def dn (w:bD)(b:Nat)(p:P):Prop:=CA w b (Bd.st p) (Bd.od p)
section
variable {w w' : bD} {b : Nat} {s d s' d' : Nat -> Nat}
theorem CA.drewN (h:CA w b s d)(n:Nat):CA (w.drewN n) b s d:=⟨h.cv,h.c0,h.c1⟩
theorem CA.drew (h:CA w b s d):CA w.drew b s d:=⟨h.cv,h.c0,h.c1⟩
theorem CA.frozen (h:CA w b s d)(o:Nat):w.frozen? ⟨b,o,none⟩=false:=by obtain⟨C,h1,_⟩:=h.cv;exact bf h1 o
theorem CA.lt (h:CA w b s d):b<w.heap.size:=by obtain⟨C,h1,_⟩:=h.cv;exact(aX.1 h1).1
theorem CA.same (h:CA w b s d)(e:w'.heap[b]? =w.heap[b]?):CA w' b s d:=⟨by rw[e];exact h.cv,fun o ho=>(aV e).trans (h.c0 o ho),fun o ho=>(aV e).trans (h.c1 o ho)⟩
theorem CA.below (h:CA w b s d)(k:Below w.heap.size w w'):CA w' b s d:=h.same (k.block b h.lt)
theorem CA.congr (h:CA w b s d)(e: ∀i,i<64->s' i=s i/\d' i=d i):CA w b s' d':=⟨h.cv,fun i hi=>by rw[(e i hi).1];exact h.c0 i hi,fun i hi=>by rw[(e i hi).2];exact h.c1 i hi⟩
theorem CA.xM (h:CA w b s d)(i v:Nat)(hi:i<64):CA (w.setCell ⟨b,i*2,none⟩ (.int .i64 (v:Int))) b (Bd.up s i v) d:=by
 obtain⟨C,h1,h2⟩:=h.cv;refine⟨⟨_,bC h1 _ _,by simpa using h2⟩,fun j hj=>?_,fun j hj=>?_⟩
 ·unfold Bd.up;by_cases e:j=i
  ·subst e;rw[cL h1 _ _ (by omega),aJ rfl]
  ·rw[cC h1 _ _ _ (by omega),aI e];exact h.c0 j hj
 ·rw[cC h1 _ _ _ (by omega)];exact h.c1 j hj
theorem CA.vq (h:CA w b s d)(i v:Nat)(hi:i<64):CA (w.setCell ⟨b,i*2+1,none⟩ (.int .i64 (v:Int))) b s (Bd.up d i v):=by
 obtain⟨C,h1,h2⟩:=h.cv;refine⟨⟨_,bC h1 _ _,by simpa using h2⟩,fun j hj=>?_,fun j hj=>?_⟩
 ·rw[cC h1 _ _ _ (by omega)];exact h.c0 j hj
 ·unfold Bd.up;by_cases e:j=i
  ·subst e;rw[cL h1 _ _ (by omega),aJ rfl]
  ·rw[cC h1 _ _ _ (by omega),aI e];exact h.c1 j hj
end
section
variable {w w' : bD} {b : Nat} {p p' : P}
theorem dn.drewN (h:dn w b p)(n:Nat):dn (w.drewN n) b p:=CA.drewN h n
theorem dn.drew (h:dn w b p):dn w.drew b p:=CA.drew h
theorem dn.frozen (h:dn w b p)(o:Nat):w.frozen? ⟨b,o,none⟩=false:=CA.frozen h o
theorem dn.lt (h:dn w b p):b<w.heap.size:=CA.lt h
theorem dn.same (h:dn w b p)(e:w'.heap[b]? =w.heap[b]?):dn w' b p:=CA.same h e
theorem dn.below (h:dn w b p)(k:Below w.heap.size w w'):dn w' b p:=CA.below h k
theorem dn.ux (h:dn w b p)(i:Nat)(hi:i<64):w.cell? ⟨b,i*2,none⟩=some (.int .i64 (Bd.st p i:Int)):=h.c0 i hi
theorem dn.uA (h:dn w b p)(i:Nat)(hi:i<64):w.cell? ⟨b,i*2+1,none⟩=some (.int .i64 (Bd.od p i:Int)):=h.c1 i hi
end
def Ao:Array Value:=((List.range 128).map fun _=>Value.int .i64 0).toArray
theorem Lh:Tryz.zeroCells280=Ao:=by kernel_rfl
theorem Ly (i:Nat)(h:i<128):Ao[i]? =some (Value.int .i64 0):=by simp[Ao,h]
theorem OI {w:bD}{b:Nat}(h:w.heap[b]? =some (.cells Ao 280 (0,0))):CA w b (fun _=>0) (fun _=>0):=by
 refine⟨⟨_,h,by simp[Ao]⟩,fun o ho=>?_,fun o ho=>?_⟩
 ·rw[au h,Ly _ (by omega)];rfl
 ·rw[au h,Ly _ (by omega)];rfl
theorem LR: ∀(i:Fin 64) (k:Fin 7),IntKind.i64.wrap ((BitVec.ofInt 64 ((i.1:Nat):Int)^^^BitVec.ofInt 64 (((2^k.1:Nat)):Int)).toNat:Int)=((Bd.bT i.1 (2^k.1):Nat):Int):=by decide+kernel
theorem Qo {w:bD}{b:Nat}(h:CA w b (Bd.up (fun _=>0) 0 1) (Bd.up (fun _=>0) 0 6)):dn w b Bd.b0:=by
 refine CA.congr h (fun i _=>?_);unfold Bd.st Bd.od Bd.up Bd.b0;by_cases c:i=0<;>simp[c]
theorem Kz (w:bD):Calls Tryz.prog 163 #[] w fun e w'=>e= .returned (.pointer (some ⟨w.heap.size,0,none⟩))/\dn w' w.heap.size Bd.b0/\Below w.heap.size w w'/\w.heap.size<w'.heap.size:=by
 have Z:(w.alloc (.cells Tryz.zeroCells280 280)).heap[w.heap.size]? =some (.cells Ao 280 (0,0)):=by
  rw[Lh];exact heap_alloc_new w _
 have Z2:(w.alloc (.cells ((Tryz.zeroCells280.setIfInBounds 0 (Value.int IntKind.i64 1)).setIfInBounds 1 (Value.int IntKind.i64 6)) 280)).heap[w.heap.size]? =some (.cells ((Ao.setIfInBounds 0 (Value.int IntKind.i64 1)).setIfInBounds 1 (Value.int IntKind.i64 6)) 280 (0,0)):=by
  rw[Lh];exact heap_alloc_new w _
 have FIN:Hid (dn (w.alloc (.cells ((Tryz.zeroCells280.setIfInBounds 0 (Value.int IntKind.i64 1)).setIfInBounds 1 (Value.int IntKind.i64 6)) 280)) w.heap.size Bd.b0):=hZ (by
  have h:=((OI Z).xM 0 1 (by omega)).vq 0 6 (by omega);refine(Qo h).same ?_;rw[Z2];exact(bC (bC Z 0 _) 1 _).symm)
 clear Z Z2;go_in
 go_wp2
 go_ret
 exact⟨rfl,FIN.out,(aQ _ _).alloc (aL _) _,by simp⟩
theorem qv (z:Int)(w:bD):Calls Tryz.prog 320 #[.int .i64 z] w fun e w'=>e= .returned (aq (Bd.AS z))/\w'=w:=by
 by_cases k:z<0\/6<z
 ·have e:Hid (Bd.AS z=1):=hZ (aJ k);by_cases h0:z<0
  ·clear k;go_in
   go_wp2
   go_ret
   rw[e.out];exact⟨rfl,rfl⟩
  ·have h1:decide (z<0)=false:=by simp;omega
   have h2:6<z:=by omega
   clear k h0;go_in
   go_wp2
   go_ret
   rw[e.out];exact⟨rfl,rfl⟩
 ·have e:Hid (Bd.AS z=0):=hZ (aI k);have h1:decide (z<0)=false:=by simp;omega
  have h2:decide (6<z)=false:=by simp;omega
  clear k;go_in
  go_wp2
  go_ret
  rw[e.out];exact⟨rfl,rfl⟩
theorem O8 (k:Nat)(hk:k<=6):wrap64 ((2:Int)^k)=((Bd.sz (k+1):Nat):Int):=by
 have: ∀k:Fin 7,wrap64 ((2:Int)^k.1)=((Bd.sz (k.1+1):Nat):Int):=by decide+kernel
 exact this ⟨k,by omega⟩
theorem Ji (i k:Nat)(hi:i<64)(hk:k<=6):bits BinOp.xor IntKind.i64 (i:Int) ((Bd.sz (k+1):Nat):Int)=((Bd.bT i (Bd.sz (k+1)):Nat):Int):=by
 have:=LR ⟨i,hi⟩ ⟨k,by omega⟩;unfold Bd.sz;rw[aP];exact this
theorem GH (k:Nat)(hk:k<=6)(w:bD):Calls Tryz.prog 229 #[.int .i64 k] w fun e w'=>e= .returned (.int .i64 (Bd.sz (k+1):Int))/\w'=w:=by
 have E:=hZ (O8 k hk);go_in
 go_wp2
 go_ret
 rw[E.out];exact⟨rfl,rfl⟩
theorem r9 (i k:Nat)(hi:i<64)(hk:k<=6)(w:bD):Calls Tryz.prog 317 #[.int .i64 i, .int .i64 k] w fun e w'=>e= .returned (.int .i64 (Bd.bT i (Bd.sz (k+1)):Int))/\w'=w:=by
 have E:=hZ (Ji i k hi hk);go_in
 go_wp2_with fail
 refine(GH k hk _).mono ?_;rintro e w1 ⟨rfl,hw⟩;subst w1;go_wp2
 go_ret
 rw[E.out];exact⟨rfl,rfl⟩
def Bd.u3 (p:P)(z:Int):Nat:=if Bd.gw p z=0 then Bd.od p z.toNat else 0
theorem vZ (b:Nat)(z:Int)(p:P)(w:bD)(h:dn w b p)(hI:Bd.Inv p):Calls Tryz.prog 290 #[.pointer (some ⟨b,0,none⟩), .int .i64 z] w fun e w'=>e= .returned (.tuple #[.int .i64 (Bd.u3 p z:Int),aq (Bd.gw p z)])/\w'=w:=by
 by_cases k:z<0\/63<z
 ·have e:Hid (Bd.gw p z=1/\Bd.u3 p z=0):=hZ (by
   have:Bd.gw p z=1:=aJ k;exact⟨this,by unfold Bd.u3;rw[this];rfl⟩)
  by_cases h0:z<0
  ·clear k;go_in
   go_wp2
   go_ret2
   rw[e.out.1,e.out.2];exact⟨rfl,rfl⟩
  ·have h1:decide (z<0)=false:=by simp;omega
   have h2:64<=z:=by omega
   clear k h0;go_in
   go_wp2
   go_ret2
   rw[e.out.1,e.out.2];exact⟨rfl,rfl⟩
 ·obtain⟨n,rfl⟩:=aG (show 0<=z by omega);have hn:n<64:=by omega
  have h1:(n:Int)<64:=by omega
  have h2:decide (64<=(n:Int))=false:=by simp;omega
  have c0:=h.ux n hn;have c1:=h.uA n hn;cases hh:p.tk n
  ·have e:Hid (Bd.gw p n=2/\Bd.u3 p n=0):=hZ (by
    have:Bd.gw p n=2:=by unfold Bd.gw;rw[aI k,hU,hh];rfl
    exact⟨this,by unfold Bd.u3;rw[this];rfl⟩)
   have s2:((Bd.st p n:Int)==2)=false:=by
    have:Bd.st p n≠2:=fun c=>by rw[(Bd.IT hI hn).1 c]at hh;cases hh
    simp;omega
   generalize Bd.st p n=s at*;clear k hh h;go_in
   go_wp2
   go_ret2
   rw[e.out.1,e.out.2];exact⟨rfl,rfl⟩
  ·have e:Hid (Bd.gw p n=0/\Bd.u3 p n=Bd.od p n):=hZ (by
    have:Bd.gw p n=0:=by unfold Bd.gw;rw[aI k,hU,hh];rfl
    exact⟨this,by unfold Bd.u3;rw[this,aJ rfl,hU]⟩)
   rw[(Bd.IT hI hn).2 hh]at c0;have c0':w.cell? ⟨b,n*2,none⟩=some (.int .i64 2):=c0;clear k hh h c0;go_in
   go_wp2
   go_ret2
   rw[e.out.1,e.out.2];exact⟨rfl,rfl⟩
theorem MS {p:P}(hI:Bd.Inv p){x k:Nat}(hx:x<64)(ho:p.ord x=k+2)(ht:p.tk x=false){w:bD}{b:Nat}(h:CA w b (Bd.up (Bd.st p) (x+Bd.sz (k+1)) 1) (Bd.up (Bd.up (Bd.od p) x k) (x+Bd.sz (k+1)) k)):dn w b (Bd.half p x):=by
 have al:=hI.al x hx (by omega);rw[ho]at al;have sp:=Bd.qq (k+1);have ss:=Bd.mH (k:=k+1) (by omega);have o0:=hI.own x (x+Bd.sz (k+1)) hx (by omega) (by omega) (by rw[ho,show k+2=k+1+1 from rfl,ss];omega);have t0:p.tk (x+Bd.sz (k+1))=false:=by
  cases c:p.tk (x+Bd.sz (k+1))
  ·rfl
  ·have:=hI.tk _ (by rw[show k+2=k+1+1 from rfl,ss]at al;omega) c;omega
 obtain⟨s,hs⟩:=nJ (Bd.sz (k+1));rw[hs]at h sp o0 t0;have eo: ∀i,(Bd.half p x).ord i=if i=x+s then k+1 else if i=x then k+1 else p.ord i:=fun i=>by
  unfold Bd.half Bd.up;rw[ho,show k+2-1=k+1 from rfl,hs]
 have et: ∀i,(Bd.half p x).tk i=p.tk i:=fun i=>rfl;refine CA.congr h (fun i _=>?_);unfold Bd.st Bd.od Bd.up;rw[eo,et];by_cases c1:i=x+s
 ·subst c1;rw[aJ rfl,aJ rfl,aJ rfl,aI (by omega),t0,aI (by decide)];exact⟨rfl,rfl⟩
 ·rw[aI c1,aI c1,aI c1];by_cases c2:i=x
  ·subst c2;rw[aJ rfl,aJ rfl,aI (by omega),ht,aI (by decide)];refine⟨?_,rfl⟩;show 1=if p.ord i=0 then 0 else if p.tk i=true then 2 else 1;rw[ho,ht];rfl
  ·rw[aI c2,aI c2];exact⟨rfl,rfl⟩
theorem Ia (b x k:Nat)(p:P)(w:bD)(h:dn w b p)(hI:Bd.Inv p)(hx:x<64)(ho:p.ord x=k+2)(ht:p.tk x=false):
  Calls Tryz.prog 322 #[.pointer (some ⟨b,0,none⟩), .int .i64 x] w fun e w'=>e= .returned (.tuple #[])/\dn w' b (Bd.half p x)/\af b w w':=by
 have al:=hI.al x hx (by omega);rw[ho]at al;have k5:k<=5:=by have:=hI.le x hx;omega
 have hb:=(Bd.yn (i:=x) (k:=k+1) (by omega) (by omega) rfl al.1).2.2.2;have y64:x+Bd.sz (k+1)<64:=by
  have ss:=Bd.mH (k:=k+1) (by omega);have sp:=Bd.qq (k+1);rw[show k+2=k+1+1 from rfl,ss]at al;omega
 have c1:=h.uA x hx;have eo:Bd.od p x=k+1:=by unfold Bd.od;rw[ho];rfl
 rw[eo]at c1;have cf:=h.frozen;have xI:(x:Int)<64:=by omega
 have FIN:Hid (∀W,CA W b (Bd.up (Bd.st p) (x+Bd.sz (k+1)) 1) (Bd.up (Bd.up (Bd.od p) x k) (x+Bd.sz (k+1)) k)->dn W b (Bd.half p x)):=hZ (fun W hW=>MS hI hx ho ht hW);have HF:=hZ h;have HH:=hZ (r9 x k hx (by omega));rw[hb]at HH;obtain⟨y,hy⟩:=nJ (x+Bd.sz (k+1));rw[hy]at HH FIN y64;have yI:(y:Int)<64:=by omega
 have hw1:IntKind.i64.wrap (((k+1:Nat):Int)-1)=(k:Int):=by rw[show((k+1:Nat):Int)-1=(k:Int)by omega];exact aN _ ⟨by omega,by omega⟩
 clear al hb hy h hI ho ht eo;go_in
 go_wp2_with fail
 refine bw (fun W=>CA W b (Bd.st p) (Bd.up (Bd.od p) x k)/\af b w W) ⟨CA.vq HF.out x k hx,(af.refl b w).setCell _ _⟩ ?_;rintro W1 ⟨h1,f1⟩;have S1:=hZ (aK h1 f1);have d0:=h1.c0 y y64;have d1:=h1.c1 y y64;have df:=h1.frozen;clear h1 f1 c1 cf;go_region_with ((go_at_call 317;refine(HH.out _).mono ?_;rintro e w2 ⟨rfl,hw2⟩;subst w2))
 go_end0
 exact⟨rfl,FIN.out _ ((S1.out.1.xM y 1 y64).vq y k y64).drew,((S1.out.2.setCell _ _).setCell _ _).drew⟩
theorem IA {q:P}{i:Nat}(h0:0<q.ord i):Bd.eV q i=(decide (Bd.od q i<6)&&(decide (Bd.st q (Bd.bT i (Bd.sz (Bd.od q i+1)))=1)&&decide (Bd.od q (Bd.bT i (Bd.sz (Bd.od q i+1)))=Bd.od q i))):=by
 have e:Bd.od q i+1=q.ord i:=by unfold Bd.od;omega
 rw[e];unfold Bd.eV;obtain⟨f,hf⟩:=nJ (Bd.bT i (Bd.sz (q.ord i)));rw[hf];apply Bool.eq_iff_iff.2;simp only[Bool.and_eq_true,decide_eq_true_eq,Bool.not_eq_true',Bd.Hw];have e2:Bd.od q f=q.ord f-1:=rfl;constructor
 ·rintro⟨a,b,c⟩;exact⟨by omega,⟨by omega,c⟩,by omega⟩
 ·rintro⟨a,⟨b,c⟩,d⟩;exact⟨by omega,by omega,c⟩
theorem wW (b i:Nat)(q:P)(w:bD)(h:dn w b q)(hI:Bd.Inv q)(hi:i<64)(h0:0<q.ord i):
  Calls Tryz.prog 291 #[.pointer (some ⟨b,0,none⟩), .int .i64 i] w fun e w'=>e= .returned (.bool (Bd.eV q i))/\ ∃n,w'=w.drewN n:=by
 have c1:=h.uA i hi;have iI:(i:Int)<64:=by omega
 have FI:=hZ (IA h0);have al:=(hI.al i hi h0).1;have e:Bd.od q i+1=q.ord i:=by unfold Bd.od;omega
 rw[<-e]at al;obtain⟨k,hk⟩:=nJ (Bd.od q i);rw[hk]at c1 FI al e;have k6:k<=6:=by have:=hI.le i hi;omega
 by_cases hlt:k<6
 ·have hltI:(k:Int)<6:=by omega
  have BL:=(Bd.IB (i:=i) (k:=k+1) (by omega) (by omega) hi al).1;have HH:=hZ (r9 i k hi k6);obtain⟨f,hf⟩:=nJ (Bd.bT i (Bd.sz (k+1)));rw[hf]at HH FI BL;rw[aO hlt,Bool.true_and]at FI;have fI:(f:Int)<64:=by omega
  have d0:=h.ux f BL;have d1:=h.uA f BL;obtain⟨s,hs⟩:=nJ (Bd.st q f);obtain⟨o,ho⟩:=nJ (Bd.od q f);rw[hs]at d0 FI;rw[ho]at d1 FI;clear hs ho hf al e h hI hk h0;by_cases e1:s=1
  ·by_cases e2:o=k
   ·have FR:Hid (Bd.eV q i=true):=hZ (by rw[FI.out,aO e1,aO e2];rfl);subst e1 e2;clear FI;go_in
    go_wp2_with fail
    go_quiet ((go_at_call 317;refine Calls.quiet_of_same (HH.out _)))
    go_wp2
    go_ret
    rw[FR.out];exact⟨rfl,_,rfl⟩
   ·have FR:Hid (Bd.eV q i=false):=hZ (by rw[FI.out,aT e2];simp);have e2':((o:Int)==(k:Int))=false:=by simp;omega
    subst e1;clear FI e2;go_in
    go_wp2_with fail
    go_quiet ((go_at_call 317;refine Calls.quiet_of_same (HH.out _)))
    go_wp2
    go_ret
    rw[FR.out];exact⟨rfl,_,rfl⟩
  ·have FR:Hid (Bd.eV q i=false):=hZ (by rw[FI.out,aT e1];rfl);have e1':((s:Int)==1)=false:=by simp;omega
   clear FI e1;go_in
   go_wp2_with fail
   go_quiet ((go_at_call 317;refine Calls.quiet_of_same (HH.out _)))
   go_wp2
   go_ret
   rw[FR.out];exact⟨rfl,_,rfl⟩
 ·have hltI:decide ((k:Int)<6)=false:=by simp;omega
  have FR:Hid (Bd.eV q i=false):=hZ (by rw[FI.out,aT hlt];rfl);clear FI hlt al e h hI hk h0;go_in
  go_wp2_with fail
  go_quiet (fail)
  go_wp2
  go_ret
  rw[FR.out];exact⟨rfl,_,rfl⟩
theorem Dr {q:P}{lo hh:Nat}(hl0:0<q.ord lo)(hlt:q.tk lo=false)(hne:lo≠hh){w:bD}{b:Nat}(h:CA w b (Bd.up (Bd.st q) hh 0) (Bd.up (Bd.up (Bd.od q) lo (Bd.od q lo+1)) hh 0)):dn w b (Bd.join q lo hh):=by
 have eo: ∀x,(Bd.join q lo hh).ord x=if x=lo then q.ord lo+1 else if x=hh then 0 else q.ord x:=fun x=>rfl;have et: ∀x,(Bd.join q lo hh).tk x=q.tk x:=fun x=>rfl;refine CA.congr h (fun i _=>?_);unfold Bd.st Bd.od Bd.up;rw[eo,et];by_cases c1:i=lo
 ·subst c1;rw[aJ rfl,aI hne,aI hne,aJ rfl,aI (by omega)];refine⟨?_,by show q.ord i+1-1=q.ord i-1+1;omega⟩;show _=if q.ord i=0 then 0 else if q.tk i=true then 2 else 1;rw[hlt,aI (show¬q.ord i=0 by omega)]
 ·rw[aI c1];by_cases c2:i=hh
  ·subst c2;rw[aJ rfl,aJ rfl,aJ rfl,aJ rfl];exact⟨rfl,rfl⟩
  ·rw[aI c2,aI c2,aI c2,aI c1];exact⟨rfl,rfl⟩
theorem FQ (b i:Nat)(q:P)(w:bD)(h:dn w b q)(hI:Bd.Inv q)(hi:i<64)(h0:0<q.ord i)(ht:q.tk i=false)(hf2:Bd.eV q i=true):
  Calls Tryz.prog 292 #[.pointer (some ⟨b,0,none⟩), .int .i64 i] w fun e w'=>e= .returned (.int .i64 ((min i (Bd.bT i (Bd.sz (q.ord i))):Nat):Int))/\dn w' b (Bd.join q (min i (Bd.bT i (Bd.sz (q.ord i)))) (max i (Bd.bT i (Bd.sz (q.ord i)))))/\af b w w':=by
 have c1:=h.uA i hi;have iI:(i:Int)<64:=by omega
 have al:=(hI.al i hi h0).1;have e:Bd.od q i+1=q.ord i:=by unfold Bd.od;omega
 unfold Bd.eV at hf2;simp only[Bool.and_eq_true,decide_eq_true_eq,Bool.not_eq_true']at hf2;obtain⟨f1,f2,f3⟩:=hf2;obtain⟨k,hk⟩:=nJ (Bd.od q i);rw[hk]at c1 e;have HH:=hZ (r9 i k hi (by omega));have BL:=(Bd.IB (i:=i) (k:=k+1) (by omega) (by omega) hi (by rw[e];exact al)).1;have BB:=(Bd.tg (i:=i) (k:=k+1) (by omega) (by omega) (by rw[e];exact al)).2.2;rw[<-e]at f2 f3|-;obtain⟨f,hf⟩:=nJ (Bd.bT i (Bd.sz (k+1)));rw[hf]at HH BL BB f2 f3|-;have fI:(f:Int)<64:=by omega
 have HF:=hZ h;have cf:=h.frozen;have hw1:IntKind.i64.wrap ((k:Int)+1)=(k:Int)+1:=aN _ ⟨by omega,by omega⟩;have of:Bd.od q f=k:=by unfold Bd.od;omega
 have d0:=h.ux i hi;have d1:=h.ux f BL;have d2:=h.uA f BL;have Of:=of;have Oi:=hk;generalize Bd.st q i=s0 at d0;generalize Bd.st q f=s1 at d1;rw[of]at d2;by_cases c:f<i
 ·have mm:min i f=f/\max i f=i:=⟨by omega,by omega⟩;rw[mm.1,mm.2];have FIN:Hid (∀W,CA W b (Bd.up (Bd.st q) i 0) (Bd.up (Bd.up (Bd.od q) f (k+1)) i 0)->dn W b (Bd.join q f i)):=hZ (fun W hW=>Dr (by omega) (by assumption) (by omega) (by rw[Of];exact hW));have cI:(f:Int)<(i:Int):=by omega
  have cI': ¬(i:Int)<(f:Int):=by omega
  clear al e f1 f2 f3 hk hf mm h hI h0 ht of Of Oi;go_in
  go_wp2_with fail
  refine(HH.out _).mono ?_;rintro e w2 ⟨rfl,hw2⟩;subst w2;go_wp2
  go_ret
  exact⟨rfl,FIN.out _ (((CA.vq HF.out f (k+1) (by omega)).xM i 0 (by omega)).vq i 0 (by omega)),(((af.refl b w).setCell _ _).setCell _ _).setCell _ _⟩
 ·have mm:min i f=i/\max i f=f:=⟨by omega,by omega⟩;rw[mm.1,mm.2];have FIN:Hid (∀W,CA W b (Bd.up (Bd.st q) f 0) (Bd.up (Bd.up (Bd.od q) i (k+1)) f 0)->dn W b (Bd.join q i f)):=hZ (fun W hW=>Dr (by omega) (by assumption) (by omega) (by rw[Oi];exact hW));have cI:(i:Int)<(f:Int):=by omega
  have cI': ¬(f:Int)<(i:Int):=by omega
  clear al e f1 f2 f3 hk hf mm h hI h0 ht of Of Oi;go_in
  go_wp2_with fail
  refine(HH.out _).mono ?_;rintro e w2 ⟨rfl,hw2⟩;subst w2;go_wp2
  go_ret
  exact⟨rfl,FIN.out _ (((CA.vq HF.out i (k+1) (by omega)).xM f 0 (by omega)).vq f 0 (by omega)),(((af.refl b w).setCell _ _).setCell _ _).setCell _ _⟩
def mv (s d:Nat->Nat):List Value:=(List.range 128).map fun o=>if o%2=0 then Value.int .i64 (s (o/2):Int)else .int .i64 (d (o/2):Int)
theorem Br (s d:Nat->Nat):(mv s d).length=128:=by simp[mv]
theorem CA.range {w:bD}{b:Nat}{s d:Nat->Nat}(h:CA w b s d):w.rangeAt b 0 (mv s d):=fun j v hv=>by
 have hj:j<128:=by have:=(aY.1 hv).1;rwa [Br]at this
 simp[mv,hj]at hv;rw[Nat.zero_add,<-hv];by_cases c:j%2=0
 ·rw[aJ c];have:=h.c0 (j/2) (by omega);rw[show j/2*2=j by omega]at this;exact this
 ·rw[aI c];have:=h.c1 (j/2) (by omega);rw[show j/2*2+1=j by omega]at this;exact this
theorem Ns (s d:Nat->Nat)(x:Nat)(h:x<64):(mv s d).toArray.extract (x*2) (x*2+2)=#[.int .i64 (s x:Int), .int .i64 (d x:Int)]:=by
 have hs:(mv s d).toArray.size=128:=by simp[mv]
 apply bL;intro i;rw[Array.getElem?_extract];by_cases hi:i<2
 ·rw[aJ (by rw[hs];omega)];have e:(mv s d).toArray[x*2+i]? =some (if(x*2+i)%2=0 then Value.int .i64 (s ((x*2+i)/2):Int)else .int .i64 (d ((x*2+i)/2):Int)):=by
   simp[mv,show x*2+i<128 by omega]
  rw[e,show(x*2+i)/2=x by omega]
  match i,hi with
  |0,_=>rw[aJ (by omega)];rfl
  |1,_=>rw[aI (by omega)];rfl
 ·rw[aI (by rw[hs];omega),aR (by simp;omega)]
theorem DA (s d:Nat->Nat)(x:Nat)(h:x<64)(w:bD):Sem.run Tryz.prog (Instr.index 278 (Value.agg (mv s d).toArray) (Value.int IntKind.i64 x)) w= .ok (.agg #[.int .i64 (s x:Int), .int .i64 (d x:Int)]) w:=by
 have hu:Tryz.prog.underlying 278=some (.array 64 277):=by kernel_rfl
 have hx:=Ns s d x h;have h1:(x:Int)<64:=by omega
 obtain⟨A,hA⟩:=nJ ((mv s d).toArray);rw[hA]at hx|-;simp[Instr.index,Sem.run_bind,run_underlying hu,go_sem,hx];intro c;omega
theorem G7 (s d:Nat->Nat):(Tryz.prog.info? 278).map (·.size)=some (mv s d).length:=by rw[Br];kernel_rfl
def Ah (p:P)(o r:Nat)(is:Bool):Prop:=(is=false/\r=0/\ ∀j,j<64->o<p.ord j->p.tk j=true)\/(is=true/\Bd.xS p o r)
def G6 (p:P)(o k:Nat):Prop:= ∀j,j<64->o<p.ord j->p.tk j=false->k<p.ord j
theorem DW (b o:Nat)(p:P)(w:bD)(h:dn w b p)(hI:Bd.Inv p)(ho:o<=6):
  Calls Tryz.prog 321 #[.pointer (some ⟨b,0,none⟩), .int .i64 o] w fun e w'=> ∃r is,e= .returned (.tuple #[.int .i64 ((r:Nat):Int), .bool is])/\Ah p o r is/\Below w.heap.size w w':=by
 have HF:=hZ h;have HI:=hZ hI;have hsz:=hZ (G7 (Bd.st p) (Bd.od p));clear h hI;go_in
 go_wp2_with fail
 go_loopw [6] (fun s wr=> ∃k:Nat,s= .int .i64 k/\o<=k/\k<=7/\Hid (Below w.heap.size w wr/\G6 p o k)) (fun s _=>7-(intOf s).toNat)
 case atStart=>exact⟨o,rfl,by omega,by omega,aQ _ _,fun j _ h1 _=>h1⟩
 case round=>
  obtain⟨k,rfl,hok,hk7,S⟩:=hrel;by_cases hk:k<=6
  ·have hkI:(k:Int)<=6:=by omega
   have HR:=hZ (CA.range (dn.below HF.out S.out.1));go_wp2_with (refine wpList_load_mid rfl 278 _ rfl b 0 rfl (mv (Bd.st p) (Bd.od p)) (.array 64 277) HR.out (by kernel_rfl) rfl hsz.out ?_)
   clear HR;go_loopw [18] (fun s wr=> ∃x:Nat,s= .int .i64 x/\x<=64/\Hid (Below w.heap.size w wr/\ ∀j,j<x-> ¬(Bd.st p j=1/\Bd.od p j=k))) (fun s _=>64-(intOf s).toNat)
   case atStart=>exact⟨0,rfl,by omega,S.out.1,fun j hj=>by omega⟩
   case round=>
    obtain⟨x,rfl,hx64,T⟩:=hrel;by_cases hx:x<64
    ·have hxI:(x:Int)<64:=by omega
     have hix:=DA (Bd.st p) (Bd.od p) x hx;have BL:Hid (∀o,Below w.heap.size w (wr.alloc o)):=hZ (fun o=>T.out.1.alloc T.out.1.size o);have NX:Hid (¬(Bd.st p x=1/\Bd.od p x=k)-> ∀j,j<x+1-> ¬(Bd.st p j=1/\Bd.od p j=k)):=hZ (fun c j hj=>by
      by_cases e:j=x
      ·rw[e];exact c
      ·exact T.out.2 j (by omega))
     have FD:Hid (Bd.st p x=1->Bd.od p x=k->Ah p o x true):=hZ (fun c1 c2=>by
      have a:=Bd.Hw.1 c1;have e:Bd.od p x=p.ord x-1:=rfl;refine .inr ⟨rfl,hx,by omega,a.2,fun j hj h1 h2=>?_⟩;have nt:=S.out.2 j hj h1 h2;by_cases c:p.ord x<p.ord j
      ·exact .inl c
      ·refine .inr ⟨by omega,Nat.le_of_not_lt fun c3=>?_⟩;exact T.out.2 j c3 ⟨Bd.yl (by omega) h2,by show p.ord j-1=k;omega⟩)
     generalize Bd.st p x=sx at*;generalize Bd.od p x=dx at*;by_cases e1:sx=1
     ·by_cases e2:dx=k
      ·have F:=hZ (FD.out e1 e2);subst e1 e2;clear FD NX;go_wp2
       go_ret2
       exact⟨x,true,rfl,F.out,BL.out _⟩
      ·have N:=hZ (NX.out (fun c=>e2 c.2));have e2':((dx:Int)==(k:Int))=false:=by simp;omega
       subst e1;clear FD NX e2;go_wp2
       go_roundw
       case rel=>exact⟨x+1,by go_num,by omega,BL.out _,N.out⟩
       case measure=>simp[intOf];omega
     ·have N:=hZ (NX.out (fun c=>e1 c.1));have e1':((sx:Int)==1)=false:=by simp;omega
      clear FD NX e1;go_wp2
      go_roundw
      case rel=>exact⟨x+1,by go_num,by omega,BL.out _,N.out⟩
      case measure=>simp[intOf];omega
    ·have NN:Hid (G6 p o (k+1)):=hZ (fun j hj h1 h2=>by
      have:=S.out.2 j hj h1 h2;by_cases c:p.ord j=k+1
      ·exact aZ ⟨Bd.yl (by omega) h2,by show p.ord j-1=k;omega⟩ (T.out.2 j (by omega))
      ·omega)
     have hx':x=64:=by omega
     subst hx';go_wp2
     go_roundw
     case rel=>exact⟨k+1,by go_num,by omega,by omega,T.out.1,NN.out⟩
     case measure=>simp[intOf];omega
  ·have hk':k=7:=by omega
   subst hk';have FIN:Hid (Ah p o 0 false):=hZ (.inl ⟨rfl,rfl,fun j hj h1=>by
    cases t:p.tk j
    ·have:=S.out.2 j hj h1 t;have:=HI.out.le j hj;omega
    ·rfl⟩)
   go_wp2
   go_ret2
   exact⟨0,false,rfl,FIN.out,S.out.1⟩
theorem JQ {p:P}{o x:Nat}{w:bD}{b:Nat}(ho:0<(Bd.parts p x (p.ord x-(o+1))).ord x)(h:dn w b (Bd.parts p x (p.ord x-(o+1))))(hx:x<64):dn (w.setCell ⟨b,x*2,none⟩ (.int .i64 2)) b (Bd.jr p o x):=by
 refine CA.congr (CA.xM h x 2 hx) (fun i _=>?_);unfold Bd.jr Bd.st Bd.od Bd.up Bd.lZ;by_cases c:i=x
 ·subst c;show(if(Bd.parts p i (p.ord i-(o+1))).ord i=0 then 0 else if(if i=i then true else _)=true then 2 else 1)=(if i=i then 2 else _)/\_;rw[aI (by omega),aJ rfl,aJ rfl,aJ rfl];exact⟨rfl,rfl⟩
 ·show(if(Bd.parts p x (p.ord x-(o+1))).ord i=0 then 0 else if(if i=x then true else(Bd.parts p x (p.ord x-(o+1))).tk i)=true then 2 else 1)=(if i=x then 2 else _)/\_;rw[aI c,aI c];exact⟨rfl,rfl⟩
theorem Dx (b o:Nat)(p:P)(w:bD)(h:dn w b p)(hI:Bd.Inv p)(hN:Bd.NB p 64)(ho:o<=6):
  Calls Tryz.prog 296 #[.pointer (some ⟨b,0,none⟩), .int .i64 o] w fun e w'=> ∃(r:Nat) (E:Int) (p':P),e= .returned (.tuple #[.int .i64 r,aq E])/\Bd.oE p o E r p'/\dn w' b p'/\af b w w':=by
 have HF:=hZ h;have HI:=hZ hI;have NI:=hZ hN;have HE:Hid (Bd.AS (o:Int)=0):=hZ (aI (by omega));clear h hI hN;go_in
 go_wp2_with fail
 refine(qv o _).mono ?_;rintro e w1 ⟨rfl,hw⟩;subst w1;rw[HE.out,aa];go_wp2_with fail
 refine(DW b o p _ HF.out HI.out ho).mono ?_;rintro e w1 ⟨x,is,rfl,hL,hB⟩;have S1:Hid (dn w1 b p/\af b w w1):=hZ ⟨HF.out.below hB,af.bB hB⟩;clear hB;rcases hL with⟨rfl,rfl,hno⟩|⟨rfl,hB⟩
 ·have FIN:Hid (Bd.oE p o 4 0 p):=hZ (.inr (.inl ⟨by omega,by rw[hU];exact hno,rfl,rfl,rfl⟩));clear hno;go_wp2
  go_ret2
  exact⟨0,4,p,rfl,FIN.out,S1.out.1,S1.out.2⟩
 ·have HB:=hZ hB;have hx64:=hB.lt;have hxI:(x:Int)<64:=by omega
  have S2:Hid (dn w1 b (Bd.parts p x 0)/\af b w w1/\o+1+0<=p.ord x):=hZ ⟨S1.out.1,S1.out.2,by have:=hB.ord;omega⟩;clear hB S1;go_wp2_with fail
  go_loopw [31] (fun _ wr=> ∃n:Nat,Hid (dn wr b (Bd.parts p x n)/\af b w wr/\o+1+n<=p.ord x)) (fun _ wr=>oB wr b (x*2+1))
  case atStart=>exact⟨0,S2⟩
  case round=>
   clear S2;obtain⟨n,S⟩:=hrel;have PI:=hZ (Bd.yo hx64 n (by have:=S.out.2.2;have:=HB.out.ord;omega) HI.out HB.out.tk ((NI.out).but HI.out x));have hw7:=HI.out.le x hx64;obtain⟨q,hq⟩:=nJ (Bd.parts p x n);have HQ:=hZ hq;have c1:=S.out.1.uA x hx64;have T:=hZ S.out.1;rw[hq]at c1 T PI;obtain⟨u,hu⟩:=nJ (Bd.od q x);rw[hu]at c1;have eu:u+1+n=p.ord x:=by have:=PI.out.2.2.1;have:=S.out.2.2;have:Bd.od q x=q.ord x-1:=rfl;omega
   have uo:q.ord x=u+1:=by have:=PI.out.2.2.1;omega
   have UO:=hZ uo;have CC:=hZ c1;have HT:Hid (q.tk x=false):=hZ (by rw[PI.out.2.2.2];exact HB.out.tk);clear hq hu uo;by_cases hgt:o<u
   ·obtain⟨k,rfl⟩: ∃k,u=k+1:=⟨u-1,by omega⟩;have hgtI:(o:Int)<((k+1:Nat):Int):=by omega
    go_wp2_with fail
    refine(Ia b x k q _ T.out PI.out.1 hx64 UO.out HT.out).mono ?_;rintro e w2 ⟨rfl,t2,f2⟩;have T2:Hid (dn w2 b (Bd.parts p x (n+1))/\af b w w2/\o+1+(n+1)<=p.ord x):=hZ ⟨by rw[Ft,HQ.out];exact t2,S.out.2.1.trans f2,by omega⟩;have CN:Hid (oB w2 b (x*2+1)=k):=hZ (qX (by
     rw[t2.uA x hx64];have:=(PI.out.1.half hx64 (by rw[UO.out];omega) HT.out).2.1;unfold Bd.od;rw[this,UO.out];rfl))
    clear t2 f2;go_wp2
    go_roundw
    case rel=>exact⟨n+1,T2⟩
    case measure=>
     rw[CN.out,qX CC.out];omega
   ·have hgtI:decide ((o:Int)<(u:Int))=false:=by simp;omega
    have EN:Hid (n=p.ord x-(o+1)):=hZ (by have:=S.out.2.2;omega);have c3:=T.out.ux x hx64;have cf:=T.out.frozen;have T3:Hid (dn (wr.setCell ⟨b,x*2,none⟩ (.int .i64 2)) b (Bd.jr p o x)/\af b w (wr.setCell ⟨b,x*2,none⟩ (.int .i64 2))):=hZ (by
     refine⟨JQ ?_ ?_ hx64,S.out.2.1.setCell _ _⟩
     ·rw[<-EN.out,HQ.out,UO.out];omega
     ·rw[<-EN.out];exact S.out.1)
    go_wp2
    go_ret2
    exact⟨x,0,_,rfl, .inr (.inr ⟨by omega,by rw[hU];exact HB.out,rfl,by rw[hU]⟩),T3.out.1,T3.out.2⟩
theorem Cb (b:Nat)(z:Int)(w:bD)(k:z<0\/6<z):
  Calls Tryz.prog 296 #[.pointer (some ⟨b,0,none⟩), .int .i64 z] w fun e w'=>e= .returned (.tuple #[.int .i64 0,aq 1])/\w'=w:=by
 have HE:Hid (Bd.AS z=1):=hZ (aJ k);clear k;go_in
 go_wp2_with fail
 refine(qv z _).mono ?_;rintro e w1 ⟨rfl,hw⟩;subst w1;rw[HE.out,aj (by decide)];go_wp2
 go_ret2
 exact⟨rfl,rfl⟩
theorem Gy (b:Nat)(z:Int)(p:P)(w:bD)(h:dn w b p)(hI:Bd.Inv p)(hN:Bd.NB p 64):
  Calls Tryz.prog 296 #[.pointer (some ⟨b,0,none⟩), .int .i64 z] w fun e w'=> ∃(r:Nat) (E:Int) (p':P),e= .returned (.tuple #[.int .i64 r,aq E])/\Bd.oE p z E r p'/\dn w' b p'/\af b w w':=by
 by_cases k:z<0\/6<z
 ·refine(Cb b z w k).mono ?_;rintro e w' ⟨rfl,rfl⟩;exact⟨0,1,p,rfl, .inl ⟨k,rfl,rfl,rfl⟩,h,af.refl _ _⟩
 ·obtain⟨o,rfl⟩:=aG (show 0<=z by omega);exact Dx b o p w h hI hN (by omega)
theorem Oj {p:P}{j:Nat}{w:bD}{b:Nat}(h0:0<p.ord j)(h:dn w b p)(hj:j<64):dn (w.setCell ⟨b,j*2,none⟩ (.int .i64 1)) b {p with tk:=Bd.lZ p.tk j false}:=by
 refine CA.congr (CA.xM h j 1 hj) (fun i _=>?_);unfold Bd.st Bd.od Bd.up Bd.lZ;by_cases c:i=j
 ·subst c;show(if p.ord i=0 then 0 else if(if i=i then false else _)=true then 2 else 1)=(if i=i then 1 else _)/\_;rw[aI (by omega),aJ rfl,aJ rfl];exact⟨rfl,rfl⟩
 ·show(if p.ord i=0 then 0 else if(if i=j then false else p.tk i)=true then 2 else 1)=(if i=j then 1 else _)/\_;rw[aI c,aI c];exact⟨rfl,rfl⟩
theorem Cv (b:Nat)(z:Int)(p:P)(w:bD)(h:dn w b p)(hI:Bd.Inv p)(k:Bd.gw p z≠0):
  Calls Tryz.prog 271 #[.pointer (some ⟨b,0,none⟩), .int .i64 z] w fun e w'=>e= .returned (aq (Bd.gw p z))/\w'=w:=by
 have HF:=hZ (aK h hI);obtain⟨E,hE⟩:=nJ (Bd.gw p z);have HX:=hZ hE;rw[hE]at k;have HK:=hZ k;clear h hI k hE;go_in
 go_wp2_with fail
 refine(vZ b z p _ HF.out.1 HF.out.2).mono ?_;rintro e w1 ⟨rfl,hw⟩;subst w1;rw[HX.out,aj HK.out];go_wp2
 go_ret
 rw[HX.out,aj HK.out];exact⟨rfl,rfl⟩
theorem J1 (b j:Nat)(p:P)(w:bD)(h:dn w b p)(hI:Bd.Inv p)(hj:j<64)(ht:p.tk j=true):
  Calls Tryz.prog 271 #[.pointer (some ⟨b,0,none⟩), .int .i64 j] w fun e w'=>e= .returned (aq 0)/\dn w' b (Bd.ji p j)/\af b w w':=by
 have HF:=hZ (aK h hI);have HK:Hid (Bd.gw p j=0):=hZ (by unfold Bd.gw;rw[aI (by omega),hU,aJ ht]);have c0:=h.ux j hj;have cf0:=h.frozen;have hjI:(j:Int)<64:=by omega
 have S0:Hid (dn (w.setCell ⟨b,j*2,none⟩ (.int .i64 1)) b {p with tk:=Bd.lZ p.tk j false}/\af b w (w.setCell ⟨b,j*2,none⟩ (.int .i64 1))/\Bd.xd {p with tk:=Bd.lZ p.tk j false} j 7 (Bd.ji p j)):=hZ ⟨Oj (hI.tk j hj ht) h hj,(af.refl b w).setCell _ _,Bd.xd.start hI hj ht⟩;clear h hI ht;go_in
 go_wp2_with fail
 refine(vZ b j p _ HF.out.1 HF.out.2).mono ?_;rintro e w1 ⟨rfl,hw⟩;subst w1;rw[HK.out,aa];go_wp2_with fail
 refine bw (fun W=>dn W b {p with tk:=Bd.lZ p.tk j false}/\af b w W/\Bd.xd {p with tk:=Bd.lZ p.tk j false} j 7 (Bd.ji p j)) S0.out ?_;intro W1 h1;have S1:=hZ h1;clear h1 S0 c0 cf0;go_loopw [1] (fun s wr=> ∃(i n:Nat) (q:P),s= .int .i64 i/\n<=7/\Hid (dn wr b q/\af b w wr/\Bd.xd q i n (Bd.ji p j))) (fun s wr=>6-oB wr b ((intOf s).toNat*2+1))
 case atStart=>exact⟨j,7,_,rfl,by omega,S1⟩
 case round=>
  clear S1;obtain⟨i,n,q,rfl,hn7,S⟩:=hrel;have hi:=S.out.2.2.lt;have CC:=hZ (S.out.1.uA i hi);cases fr:Bd.eV q i
  ·have FR:=hZ fr;have EQ:Hid (q=Bd.ji p j):=hZ (by rw[<-S.out.2.2.eq,Bd.I0 fr]);clear fr;go_wp2_with fail
   refine(wW b i q _ S.out.1 S.out.2.2.inv hi S.out.2.2.pos).mono ?_;rintro e w2 ⟨rfl,nq,hw2⟩;have T:Hid (dn w2 b q/\af b w w2):=hZ (by rw[hw2];exact⟨S.out.1.drewN nq,S.out.2.1.drewN nq⟩);clear hw2;rw[FR.out];go_wp2
   go_ret
   exact⟨rfl,by rw[<-EQ.out];exact T.out.1,T.out.2⟩
  ·have FR:=hZ fr;have lt7:q.ord i<7:=by
    unfold Bd.eV at fr;simp only[Bool.and_eq_true,decide_eq_true_eq]at fr;exact fr.1
   obtain⟨m,rfl⟩: ∃m,n=m+1:=⟨n-1,by have:=S.out.2.2.fu;omega⟩;have GN:=hZ (S.out.2.2.next fr);have L7:=hZ lt7;have JO:=hZ (by
    have f:=fr;unfold Bd.eV at f;simp only[Bool.and_eq_true,decide_eq_true_eq,Bool.not_eq_true']at f;exact(S.out.2.2.inv.join hi S.out.2.2.pos f.1 S.out.2.2.tk f.2.1 f.2.2).2.2.1)
   clear fr lt7;go_wp2_with fail
   refine(wW b i q _ S.out.1 S.out.2.2.inv hi S.out.2.2.pos).mono ?_;rintro e w2 ⟨rfl,nq,hw2⟩;have T:Hid (dn w2 b q/\af b w w2):=hZ (by rw[hw2];exact⟨S.out.1.drewN nq,S.out.2.1.drewN nq⟩);clear hw2;rw[FR.out];go_wp2_with fail
   refine(FQ b i q _ T.out.1 S.out.2.2.inv hi S.out.2.2.pos S.out.2.2.tk FR.out).mono ?_;rintro e w3 ⟨rfl,t3,f3⟩;have T3:=hZ (aK t3 (T.out.2.trans f3));clear t3 f3;obtain⟨lo,hlo⟩:=nJ (min i (Bd.bT i (Bd.sz (q.ord i))));rw[hlo];rw[hlo]at T3 GN JO;have CN:Hid (oB w3 b (lo*2+1)=q.ord i):=hZ (qX (by
    rw[T3.out.1.uA lo GN.out.lt];unfold Bd.od;rw[JO.out];rfl))
   clear hlo;go_wp2
   go_roundw
   case rel=>exact⟨lo,m,_,by first|rfl|trivial,by omega,T3.out.1,T3.out.2,GN.out⟩
   case measure=>
    simp only[intOf,hU];rw[CN.out,qX CC.out];have:=L7.out;have:=S.out.2.2.pos;show _<6-(q.ord i-1);omega
theorem It (b:Nat)(z:Int)(p:P)(w:bD)(h:dn w b p)(hI:Bd.Inv p):
  Calls Tryz.prog 271 #[.pointer (some ⟨b,0,none⟩), .int .i64 z] w fun e w'=>e= .returned (aq (Bd.gw p z))/\dn w' b (Bd.jN p z)/\af b w w':=by
 by_cases k:Bd.gw p z=0
 ·have k':=k;unfold Bd.gw at k';by_cases c1:z<0\/63<z
  ·rw[aJ c1]at k';omega
  ·rw[aI c1]at k';obtain⟨j,rfl⟩:=aG (show 0<=z by omega);rw[hU]at k';have ht:p.tk j=true:=by
    cases t:p.tk j
    ·rw[t,aI (by decide)]at k';omega
    ·rfl
   refine(J1 b j p w h hI (by omega) ht).mono ?_;rintro e w' ⟨rfl,h1,h2⟩;unfold Bd.jN;rw[k,aJ rfl,hU];exact⟨rfl,h1,h2⟩
 ·refine(Cv b z p w h hI k).mono ?_;rintro e w' ⟨rfl,rfl⟩;unfold Bd.jN;rw[aI k];exact⟨rfl,h,af.refl _ _⟩
theorem LO.alloc {w wr:bD}{L:List Nat}{l:Value}(h:LO w L l wr)(ob:Obj):LO w L l (wr.alloc ob):=⟨h.bF.alloc h.bF.size ob,h.own.alloc _⟩
