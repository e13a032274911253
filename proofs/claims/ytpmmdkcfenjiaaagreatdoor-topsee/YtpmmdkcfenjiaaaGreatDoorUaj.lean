import Derived.Test.YtpmmdkcfenjiaaaGreatDoorUaf
set_option maxRecDepth 100000
set_option maxHeartbeats 2000000
set_option linter.unusedVariables false
set_option linter.unusedSimpArgs false
namespace Go.Proofs.YtpmmdkcfenjiaaaGreatDoor
open Value renaming int->aa,pointer->ai,tuple->ao,bool->ar,agg->au
open IntKind renaming i64->az
open Ending renaming returned->bf
open Obj renaming cells->bg
open Option renaming some->bh,none->bj
open Tryz (prog)
namespace Bd
structure P where
 ord:Nat->Nat
 tk:Nat->Bool
def sz(k:Nat):Nat:=2^(k-1)
theorem nP{M:Nat->Nat->Prop}(h1:M 1 1)(h2:M 2 2)(h3:M 3 4)(h4:M 4 8)(h5:M 5 16)(h6:M 6 32)(h7:M 7 64)(k:Nat)(a:1<=k)(b:k<=7):M k (sz k):=by
 match k,a,b with
 |1,_,_=>exact h1
 |2,_,_=>exact h2
 |3,_,_=>exact h3
 |4,_,_=>exact h4
 |5,_,_=>exact h5
 |6,_,_=>exact h6
 |7,_,_=>exact h7
theorem nQ{k:Nat}(h:1<=k):sz (k+1)=2*sz k:=by
 unfold sz;obtain⟨j,rfl⟩:∃j,k=j+1:=⟨k-1,bu⟩;rw[aP,aP,Nat.pow_succ];omega
theorem rN(k:Nat):0<sz k:=Nat.two_pow_pos _
def cV(i s:Nat):Nat:=if i/s%2=1 then i-s else i+s
structure Inv (b:P):Prop where
 le:∀i,i<64->b.ord i<=7
 al:∀i,i<64->0<b.ord i->i%sz (b.ord i)=0/\i+sz (b.ord i)<=64
 own:∀i j,i<64->0<b.ord i->i<j->j<i+sz (b.ord i)->b.ord j=0
 Bv:∀j,j<64->∃i,i<=j/\0<b.ord i/\j<i+sz (b.ord i)
 tk:∀i,i<64->b.tk i=true->0<b.ord i
def NB(b:P)(e:Nat):Prop:=∀i,i<64->0<b.ord i->b.ord i<7->b.tk i=false->i≠e->cV i (sz (b.ord i))≠e->¬(b.ord (cV i (sz (b.ord i)))=b.ord i/\b.tk (cV i (sz (b.ord i)))=false)
def up(f:Nat->Nat)(i v:Nat):Nat->Nat:=λj=>if j=i then v else f j
def mX(f:Nat->Bool)(i:Nat)(v:Bool):Nat->Bool:=λj=>if j=i then v else f j
def half(b:P)(i:Nat):P:={b with ord:=up (up b.ord i (b.ord i-1)) (i+sz (b.ord i-1)) (b.ord i-1)}
def join(b:P)(lo hi:Nat):P:={b with ord:=up (up b.ord hi 0) lo (b.ord lo+1)}
section
variable {b:P}
theorem yM{i s:Nat}{k:Nat}(hk:1<=k)(hk6:k<=6)(hs:s=sz k)(h:i%sz (k+1)=0):i%s=0/\(i+s)%s=0/\cV (i+s) s=i/\cV i s=i+s:=by
 rw[nQ hk,<-hs]at h;have:∀k,1<=k->k<=7->∀i,i%(2*sz k)=0->i%sz k=0/\(i+sz k)%sz k=0/\cV (i+sz k) (sz k)=i/\cV i (sz k)=i+sz k:=by
  refine nP (M:=λ_ s=>∀i,i%(2*s)=0->i%s=0/\(i+s)%s=0/\cV (i+s) s=i/\cV i s=i+s) ?_ ?_ ?_ ?_ ?_ ?_ ?_
  all_goals
   intro i hi;unfold cV;refine⟨by omega,bu,?_,?_⟩
   .rw[nK];omega
   .rw[nJ]
 rw[hs]at h|-;exact this k hk bu i h
theorem uZ{i k:Nat}(hk:1<=k)(hk6:k<=6)(h:i%sz k=0):cV (cV i (sz k)) (sz k)=i/\(cV i (sz k))%sz k=0/\cV i (sz k)≠i:=by
 have:∀k,1<=k->k<=7->∀i,i%sz k=0->cV (cV i (sz k)) (sz k)=i/\(cV i (sz k))%sz k=0/\cV i (sz k)≠i:=by
  refine nP (M:=λ_ s=>∀i,i%s=0->cV (cV i s) s=i/\(cV i s)%s=0/\cV i s≠i) ?_ ?_ ?_ ?_ ?_ ?_ ?_
  all_goals
   intro i hi;refine⟨?_,?_,?_⟩<;>(unfold cV;repeat' split)<;>omega
 exact this k hk bu i h
theorem QH{i k:Nat}(hk:1<=k)(hk6:k<=6)(h:i%sz k=0):(min i (cV i (sz k)))%sz (k+1)=0/\max i (cV i (sz k))=min i (cV i (sz k))+sz k:=by
 rw[nQ hk];have:∀k,1<=k->k<=7->∀i,i%sz k=0->(min i (cV i (sz k)))%(2*sz k)=0/\max i (cV i (sz k))=min i (cV i (sz k))+sz k:=by
  refine nP (M:=λ_ s=>∀i,i%s=0->(min i (cV i s))%(2*s)=0/\max i (cV i s)=min i (cV i s)+s) ?_ ?_ ?_ ?_ ?_ ?_ ?_
  all_goals
   intro i hi;refine⟨?_,?_⟩<;>(unfold cV;split)<;>omega
 exact this k hk bu i h
theorem Inv.half(h:Inv b){i:Nat}(hi:i<64)(ho:2<=b.ord i)(ht:b.tk i=false):Inv (half b i)/\(half b i).ord i=b.ord i-1/\(half b i).tk=b.tk:=by
 obtain⟨k,hk⟩:∃k,b.ord i=k+1:=⟨b.ord i-1,bu⟩;have hk1:1<=k:=bu
 have hle:=h.le i hi;have al:=h.al i hi bu;rw[hk]at al;have ah:=yM hk1 bu rfl al.1;have hs:=nQ hk1;have sp:=rN k;obtain⟨s,es⟩:=hU (sz k);have own:=h.own i;rw[hk]at own;have eo:∀x,(Bd.half b i).ord x=if x=i+s then k else if x=i then k else b.ord x:=λx=>by
  unfold Bd.half up;rw[hk,aP,es]
 rw[es]at ah hs sp;have ei:(Bd.half b i).ord i=k:=by rw[eo,nJ,aJ rfl]
 have eu:(Bd.half b i).ord (i+s)=k:=by rw[eo,aJ rfl]
 have en:∀x,x≠i->x≠i+s->(Bd.half b i).ord x=b.ord x:=λx h1 h2=>by rw[eo,aI h2,aI h1]
 have ou:b.ord (i+s)=0:=own (i+s) hi bu bu bu;refine⟨⟨λx hx=>?_,λx hx h0=>?_,λx y hx h0 h1 h2=>?_,λy hy=>?_,λx hx h0=>?_⟩,by rw[ei,hk];rfl,rfl⟩
 .by_cases c1:x=i
  .rw[c1,ei];omega
  .by_cases c2:x=i+s
   .rw[c2,eu];omega
   .rw[en x c1 c2];exact h.le x hx
 .by_cases c1:x=i
  .rw[c1,ei,es];exact⟨ah.1,bu⟩
  .by_cases c2:x=i+s
   .rw[c2,eu,es];exact⟨ah.2.1,bu⟩
   .rw[en x c1 c2]at h0|-;exact h.al x hx h0
 .by_cases c1:x=i
  .rw[c1,ei,es]at h2;rw[en y bu bu];exact own y hi bu bu bu
  .by_cases c2:x=i+s
   .rw[c2,eu,es]at h2;rw[en y bu bu];exact own y hi bu bu bu
   .rw[en x c1 c2]at h0 h2;have hy:=h.own x y hx h0 h1 h2;by_cases c3:y=i
    .rw[c3,hk]at hy;omega
    .by_cases c4:y=i+s
     .exfalso;by_cases c5:x<i
      .have:=h.own x i hx h0 c5 bu;omega
      .have:=own x hi bu bu bu;omega
     .rw[en y c3 c4];exact hy
 .obtain⟨a,a1,a2,a3⟩:=h.Bv y hy;by_cases c1:a=i
  .rw[c1,hk]at a3;by_cases c:y<i+s
   .exact⟨i,bu,by rw[ei];omega,by rw[ei,es];exact c⟩
   .exact⟨i+s,bu,by rw[eu];omega,by rw[eu,es];omega⟩
  .have c2:a≠i+s:=λc=>by rw[c,ou]at a2;omega
   exact⟨a,a1,by rw[en a c1 c2];exact a2,by rw[en a c1 c2];exact a3⟩
 .have h0':b.tk x=true:=h0;have:=h.tk x hx h0';by_cases c1:x=i
  .rw[c1,ht]at h0';cases h0'
  .by_cases c2:x=i+s
   .rw[c2,eu];omega
   .rw[en x c1 c2];exact this
theorem NB.half(h:Inv b){i:Nat}(hi:i<64)(ho:2<=b.ord i)(n:NB b i):NB (half b i) i:=by
 obtain⟨k,hk⟩:∃k,b.ord i=k+1:=⟨b.ord i-1,bu⟩;have hk1:1<=k:=bu
 have hle:=h.le i hi;have al:=h.al i hi bu;rw[hk]at al;have ah:=yM hk1 bu rfl al.1;have sp:=rN k;obtain⟨s,es⟩:=hU (sz k);rw[es]at ah sp;have eo:∀x,(Bd.half b i).ord x=if x=i+s then k else if x=i then k else b.ord x:=λx=>by
  unfold Bd.half up;rw[hk,aP,es]
 have eu:(Bd.half b i).ord (i+s)=k:=by rw[eo,aJ rfl]
 have en:∀x,x≠i->x≠i+s->(Bd.half b i).ord x=b.ord x:=λx h1 h2=>by rw[eo,aI h2,aI h1]
 intro x hx h0 h7 ht hxi hbi;by_cases c2:x=i+s
 .rw[c2,eu,es,ah.2.2.1]at hbi;exact aZ rfl hbi
 .rw[en x hxi c2]at h0 h7 hbi|-;by_cases c3:cV x (sz (b.ord x))=i+s
  .rw[c3,eu];rintro⟨e1,_⟩;have bb:=uZ (i:=x) (k:=b.ord x) bu bu (h.al x hx h0).1;rw[c3,<-e1,es,ah.2.2.1]at bb;exact hxi bb.1.symm
  .rw[en _ hbi c3];exact n x hx h0 h7 ht hxi hbi
theorem Inv.join(h:Inv b){at_:Nat}(hi:at_<64)(h0:0<b.ord at_)(h7:b.ord at_<7)(ht:b.tk at_=false)(ho:b.ord (cV at_ (sz (b.ord at_)))=b.ord at_)(ht2:b.tk (cV at_ (sz (b.ord at_)))=false):
  Inv (join b (min at_ (cV at_ (sz (b.ord at_)))) (max at_ (cV at_ (sz (b.ord at_)))))/\min at_ (cV at_ (sz (b.ord at_)))<64/\(join b (min at_ (cV at_ (sz (b.ord at_)))) (max at_ (cV at_ (sz (b.ord at_))))).ord (min at_ (cV at_ (sz (b.ord at_))))=b.ord at_+1/\b.tk (min at_ (cV at_ (sz (b.ord at_))))=false:=by
 obtain⟨k,hk⟩:=hU (b.ord at_);rw[hk]at h0 h7 ho ht2|-;have al:=h.al at_ hi bu;rw[hk]at al;have bl:=QH h0 bu al.1;have hs:=nQ h0;have sp:=rN k;obtain⟨hf,ehf⟩:=hU (cV at_ (sz k));obtain⟨s,es⟩:=hU (sz k);rw[ehf]at ho ht2 bl|-;obtain⟨lo,elo⟩:=hU (min at_ hf);obtain⟨hh,ehh⟩:=hU (max at_ hf);rw[elo,ehh]at bl|-;rw[es]at bl hs sp;have lo64:lo<64:=bu
 have ol:b.ord lo=k/\b.tk lo=false:=by
  by_cases c:lo=at_
  .rw[c];exact⟨hk,ht⟩
  .rw[show lo=hf by omega];exact⟨ho,ht2⟩
 have oh:b.ord hh=k/\b.tk hh=false:=by
  by_cases c:hh=at_
  .rw[c];exact⟨hk,ht⟩
  .rw[show hh=hf by omega];exact⟨ho,ht2⟩
 have hh64:hh+s<=64:=by
  have a2:=al.2;rw[es]at a2;by_cases c:hh=at_
  .rw[c];exact a2
  .have:lo=at_:=bu
   rw[hs]at bl;have l64:lo%(2*s)=0:=bl.1;have key:∀k,1<=k->k<=7->k<=6->∀x,x<64->x%(2*sz k)=0->x+2*sz k<=64:=by
    refine nP (M:=λk s=>k<=6->∀x,x<64->x%(2*s)=0->x+2*s<=64) ?_ ?_ ?_ ?_ ?_ ?_ ?_
    all_goals
     intro hk x hx hm;omega
   have:=key k h0 bu bu lo lo64 (by rw[es];exact l64);rw[es]at this;omega
 have eo:∀x,(Bd.join b lo hh).ord x=if x=lo then k+1 else if x=hh then 0 else b.ord x:=λx=>by
  unfold Bd.join up;rw[ol.1]
 have el:(Bd.join b lo hh).ord lo=k+1:=by rw[eo,aJ rfl]
 have eh:(Bd.join b lo hh).ord hh=0:=by rw[eo,nJ,aJ rfl]
 have en:∀x,x≠lo->x≠hh->(Bd.join b lo hh).ord x=b.ord x:=λx h1 h2=>by rw[eo,aI h1,aI h2]
 refine⟨⟨λx hx=>?_,λx hx x0=>?_,λx y hx x0 h1 h2=>?_,λy hy=>?_,λx hx x0=>?_⟩,lo64,el,ol.2⟩
 .by_cases c1:x=lo
  .rw[c1,el];omega
  .by_cases c2:x=hh
   .rw[c2,eh];omega
   .rw[en x c1 c2];exact h.le x hx
 .by_cases c1:x=lo
  .rw[c1,el];exact⟨bl.1,by rw[hs];omega⟩
  .by_cases c2:x=hh
   .rw[c2,eh]at x0;omega
   .rw[en x c1 c2]at x0|-;exact h.al x hx x0
 .by_cases c1:x=lo
  .rw[c1,el,hs]at h2;by_cases c2:y=hh
   .rw[c2,eh]
   .rw[en y bu c2];by_cases c3:y<hh
    .exact h.own lo y lo64 bu bu (by rw[ol.1,es];omega)
    .exact h.own hh y bu bu bu (by rw[oh.1,es];omega)
  .by_cases c2:x=hh
   .rw[c2,eh]at x0;omega
   .rw[en x c1 c2]at x0 h2;have hy:=h.own x y hx x0 h1 h2;by_cases c3:y=lo
    .rw[c3,ol.1]at hy;omega
    .by_cases c4:y=hh
     .rw[c4,eh]
     .rw[en y c3 c4];exact hy
 .obtain⟨a,a1,a2,a3⟩:=h.Bv y hy;by_cases c1:a=lo
  .rw[c1,ol.1,es]at a3;exact⟨lo,bu,by rw[el];omega,by rw[el,hs];omega⟩
  .by_cases c2:a=hh
   .rw[c2,oh.1,es]at a3;exact⟨lo,bu,by rw[el];omega,by rw[el,hs];omega⟩
   .exact⟨a,a1,by rw[en a c1 c2];exact a2,by rw[en a c1 c2];exact a3⟩
 .have x0':b.tk x=true:=x0;by_cases c1:x=lo
  .rw[c1,el];omega
  .by_cases c2:x=hh
   .rw[c2,oh.2]at x0';cases x0'
   .rw[en x c1 c2];exact h.tk x hx x0'
theorem NB.join(h:Inv b){at_:Nat}(hi:at_<64)(h0:0<b.ord at_)(h7:b.ord at_<7)(n:NB b at_):
  NB (join b (min at_ (cV at_ (sz (b.ord at_)))) (max at_ (cV at_ (sz (b.ord at_))))) (min at_ (cV at_ (sz (b.ord at_)))):=by
 have bb:=uZ (i:=at_) (k:=b.ord at_) h0 bu (h.al at_ hi h0).1;obtain⟨hf,ehf⟩:=hU (cV at_ (sz (b.ord at_)));rw[ehf]at bb|-;obtain⟨lo,elo⟩:=hU (min at_ hf);obtain⟨hh,ehh⟩:=hU (max at_ hf);rw[elo,ehh];have ne:=bb.2.2;have eo:∀x,(Bd.join b lo hh).ord x=if x=lo then b.ord lo+1 else if x=hh then 0 else b.ord x:=λx=>rfl;have eh:(Bd.join b lo hh).ord hh=0:=by rw[eo,nJ,aJ rfl]
 have en:∀x,x≠lo->x≠hh->(Bd.join b lo hh).ord x=b.ord x:=λx h1 h2=>by rw[eo,aI h1,aI h2]
 intro x hx x0 x7 ht hxl hbl;have c2:x≠hh:=λc=>by rw[c,eh]at x0;omega
 rw[en x hxl c2]at x0 x7 hbl|-;by_cases c3:cV x (sz (b.ord x))=hh
 .rw[c3,eh];rintro⟨e,_⟩;omega
 .rw[en _ hbl c3];exact n x hx x0 x7 ht bu bu
theorem NB.all{e:Nat}(n:NB b e)(he:e<64)(h:Inv b)(c:b.tk e=true\/b.ord e=0\/7<=b.ord e\/b.tk (cV e (sz (b.ord e)))=true\/b.ord (cV e (sz (b.ord e)))≠b.ord e):NB b 64:=by
 intro x hx x0 x7 ht _ _ hc;by_cases c1:x=e
 .subst c1;rcases c with c|c|c|c|c
  .rw[c]at ht;cases ht
  .omega
  .omega
  .rw[hc.2]at c;cases c
  .exact c hc.1
 .by_cases c2:cV x (sz (b.ord x))=e
  .rw[c2]at hc;have bb:=uZ (i:=x) (k:=b.ord x) bu bu (h.al x hx x0).1;rw[c2,<-hc.1]at bb;rcases c with c|c|c|c|c
   .rw[hc.2]at c;cases c
   .rw[c]at hc;omega
   .omega
   .rw[bb.1,ht]at c;cases c
   .rw[bb.1]at c;exact c hc.1.symm
  .exact n x hx x0 x7 ht c1 c2 hc
end
end Bd
namespace Bd
structure Fz (b:P)(o i:Nat):Prop where
 lt:i<64
 ord:o<b.ord i
 tk:b.tk i=false
 least:∀j,j<64->o<b.ord j->b.tk j=false->b.ord i<b.ord j\/(b.ord i=b.ord j/\i<=j)
def parts(b:P)(i:Nat):Nat->P
 |0=>b
 |n+1=>parts (half b i) i n
def lg(b:P)(o i:Nat):P:={parts b i (b.ord i-(o+1))with tk:=mX (parts b i (b.ord i-(o+1))).tk i true}
def pC(b:P)(z e:Int)(r:Nat)(b':P):Prop:=((z<0\/6<z)/\e=1/\r=0/\b'=b)\/(¬(z<0\/6<z)/\(∀j,j<64->z.toNat<b.ord j->b.tk j=true)/\e=4/\r=0/\b'=b)\/(¬(z<0\/6<z)/\Fz b z.toNat r/\e=0/\b'=lg b z.toNat r)
def ia(b:P)(z:Int):Int:=if z<0\/63<z then 1 else if b.tk z.toNat=true then 0 else 2
def fE(b:P)(i:Nat):Bool:=decide (b.ord i<7)&&(decide (b.ord (cV i (sz (b.ord i)))=b.ord i)&& !b.tk (cV i (sz (b.ord i))))
def nX(b:P)(i:Nat):Nat->P
 |0=>b
 |n+1=>if fE b i=true then nX (join b (min i (cV i (sz (b.ord i)))) (max i (cV i (sz (b.ord i))))) (min i (cV i (sz (b.ord i)))) n else b
def jR(b:P)(i:Nat):P:=nX {b with tk:=mX b.tk i false} i 7
def kE(b:P)(z:Int):P:=if ia b z=0 then jR b z.toNat else b
theorem Ae{b:P}{i:Nat}(hi:i<64):∀n,n<b.ord i->Inv b->b.tk i=false->NB b i->Inv (parts b i n)/\NB (parts b i n) i/\(parts b i n).ord i=b.ord i-n/\(parts b i n).tk=b.tk:=by
 intro n
 induction n generalizing b with
 |zero=>intro _ h1 _ h3;exact⟨h1,h3,rfl,rfl⟩
 |succ n ih=>
  intro hn h1 h2 h3;have a:=h1.half hi bu h2;have r:=ih (b:=half b i) (by rw[a.2.1];omega) a.1 (by rw[a.2.2];exact h2) (h3.half h1 hi bu);refine⟨r.1,r.2.1,?_,?_⟩
  .show(parts (half b i) i n).ord i=_;rw[r.2.2.1,a.2.1];omega
  .show(parts (half b i) i n).tk=_;rw[r.2.2.2,a.2.2]
theorem NB.but{b:P}(n:NB b 64)(h:Inv b)(e:Nat):NB b e:=λi hi h0 h7 ht _ _=>n i hi h0 h7 ht bu (by
 have al:=h.al i hi h0;have key:∀k,1<=k->k<=7->k<=6->∀x,x<64->x%sz k=0->cV x (sz k)≠64:=by
  refine nP (M:=λk s=>k<=6->∀x,x<64->x%s=0->cV x s≠64) ?_ ?_ ?_ ?_ ?_ ?_ ?_
  all_goals
   intro hk x hx hm;unfold cV;split<;>omega
 exact key _ h0 bu bu i hi al.1)
theorem Inv.taken{b:P}(h:Inv b){i:Nat}(h0:0<b.ord i)(n:NB b i)(hi:i<64):Inv {b with tk:=mX b.tk i true}/\NB {b with tk:=mX b.tk i true} 64:=by
 refine⟨⟨h.le,h.al,h.own,h.Bv,λx hx hx0=>?_⟩,?_⟩
 .by_cases c:x=i
  .rw[c];exact h0
  .have:(if x=i then true else b.tk x)=true:=hx0;rw[aI c]at this;exact h.tk x hx this
 .have n':NB {b with tk:=mX b.tk i true} i:=λx hx x0 x7 ht xi bi hc=>by
   have e1:b.tk x=false:=by
    have:(if x=i then true else b.tk x)=false:=ht;rw[aI xi]at this;exact this
   have e2:b.tk (cV x (sz (b.ord x)))=false:=by
    have:(if cV x (sz (b.ord x))=i then true else b.tk (cV x (sz (b.ord x))))=false:=hc.2;rw[aI bi]at this;exact this
   exact n x hx x0 x7 e1 xi bi ⟨hc.1,e2⟩
  have i':Inv {b with tk:=mX b.tk i true}:=⟨h.le,h.al,h.own,h.Bv,λx hx hx0=>by
   by_cases c:x=i
   .rw[c];exact h0
   .have:(if x=i then true else b.tk x)=true:=hx0;rw[aI c]at this;exact h.tk x hx this⟩
  exact n'.all hi i' (.inl (by show(if i=i then true else b.tk i)=true;rw[aJ rfl]))
theorem Inv.lg{b:P}(h:Inv b)(n:NB b 64){o i:Nat}(k:Fz b o i):Inv (lg b o i)/\NB (lg b o i) 64/\(lg b o i).ord i=o+1/\(lg b o i).tk i=true/\i%sz (o+1)=0/\∀j,j≠i->(Bd.lg b o i).tk j=b.tk j:=by
 have hb:=k.ord;have r:=Ae k.lt (b.ord i-(o+1)) bu h k.tk (n.but h i);have eo:(parts b i (b.ord i-(o+1))).ord i=o+1:=by rw[r.2.2.1];omega
 have t:=r.1.taken (by rw[eo];omega) r.2.1 k.lt;refine⟨t.1,t.2,eo,?_,?_,λj hj=>?_⟩
 .show(if i=i then true else _)=true;rw[aJ rfl]
 .have:=(r.1.al i k.lt (by rw[eo];omega)).1;rw[eo]at this;exact this
 .show(if j=i then true else(parts b i (b.ord i-(o+1))).tk j)=_;rw[aI hj,r.2.2.2]
theorem Inv.take{b b':P}(h:Inv b)(n:NB b 64){z e:Int}{r:Nat}(k:pC b z e r b'):Inv b'/\NB b' 64:=by
 rcases k with⟨_,_,_,rfl⟩|⟨_,_,_,_,rfl⟩|⟨_,k,_,rfl⟩
 .exact⟨h,n⟩
 .exact⟨h,n⟩
 .have:=h.lg n k;exact⟨this.1,this.2.1⟩
theorem I8:∀(n:Nat) {b:P} {i:Nat},i<64->0<b.ord i->7<=b.ord i+n->Inv b->b.tk i=false->NB b i->Inv (nX b i n)/\NB (nX b i n) 64/\(nX b i n).tk=b.tk:=by
 intro n
 induction n with
 |zero=>intro b i hi h0 hn h1 h2 h3;exact⟨h1,h3.all hi h1 (.inr (.inr (.inl bu))),rfl⟩
 |succ n ih=>
  intro b i hi h0 hn h1 h2 h3;show Inv (if fE b i=true then _ else b)/\NB (if fE b i=true then _ else b) 64/\(if fE b i=true then _ else b).tk=b.tk;by_cases c:fE b i=true
  .rw[aJ c];unfold fE at c;simp only[Bool.and_eq_true,decide_eq_true_eq,Bool.not_eq_true']at c;have a:=h1.join hi h0 c.1 h2 c.2.1 c.2.2;have r:=ih (b:=join b (min i (cV i (sz (b.ord i)))) (max i (cV i (sz (b.ord i))))) (i:=min i (cV i (sz (b.ord i)))) a.2.1 (by rw[a.2.2.1];omega) (by rw[a.2.2.1];omega) a.1 a.2.2.2 (h3.join h1 hi h0 c.1);exact⟨r.1,r.2.1,r.2.2⟩
  .rw[aI c];refine⟨h1,h3.all hi h1 ?_,rfl⟩;by_cases c1:b.ord i<7
   .by_cases c2:b.ord (cV i (sz (b.ord i)))=b.ord i
    .refine .inr (.inr (.inr (.inl ?_)));cases c3:b.tk (cV i (sz (b.ord i)))
     .exact aZ (by unfold fE;simp[c1,c2,c3]) c
     .rfl
    .exact .inr (.inr (.inr (.inr c2)))
   .exact .inr (.inr (.inl bu))
theorem Inv.jR{b:P}(h:Inv b)(n:NB b 64){i:Nat}(hi:i<64)(ht:b.tk i=true):Inv (jR b i)/\NB (jR b i) 64/\(jR b i).tk=mX b.tk i false:=by
 have h0:=h.tk i hi ht;have i':Inv {b with tk:=mX b.tk i false}:=⟨h.le,h.al,h.own,h.Bv,λx hx hx0=>by
  have:(if x=i then false else b.tk x)=true:=hx0;by_cases c:x=i
  .rw[aJ c]at this;cases this
  .rw[aI c]at this;exact h.tk x hx this⟩
 have n':NB {b with tk:=mX b.tk i false} i:=λx hx x0 x7 htx xi bi hc=>by
  have e1:b.tk x=false:=by
   have:(if x=i then false else b.tk x)=false:=htx;rw[aI xi]at this;exact this
  have e2:b.tk (cV x (sz (b.ord x)))=false:=by
   have:(if cV x (sz (b.ord x))=i then false else b.tk (cV x (sz (b.ord x))))=false:=hc.2;rw[aI bi]at this;exact this
  exact(n.but h i) x hx x0 x7 e1 xi bi ⟨hc.1,e2⟩
 exact I8 7 (b:={b with tk:=mX b.tk i false}) hi h0 bu i' (by show(if i=i then false else b.tk i)=false;rw[aJ rfl]) n'
theorem Inv.QX{b:P}(h:Inv b)(n:NB b 64)(z:Int):Inv (kE b z)/\NB (kE b z) 64:=by
 unfold kE;by_cases c:ia b z=0
 .rw[aJ c];unfold ia at c;by_cases c1:z<0\/63<z
  .rw[aJ c1]at c;omega
  .rw[aI c1]at c;by_cases c2:b.tk z.toNat=true
   .have:=h.jR n bu c2;exact⟨this.1,this.2.1⟩
   .rw[aI c2]at c;omega
 .rw[aI c];exact⟨h,n⟩
def b0:P:=⟨λi=>if i=0 then 7 else 0,λ_=>false⟩
theorem wi:Inv b0/\NB b0 64:=by
 have e:∀i,0<b0.ord i->i=0:=λi h=>by
  by_cases c:i=0
  .exact c
  .have:(if i=0 then 7 else 0)>0:=h;rw[aI c]at this;omega
 refine⟨⟨λi _=>?_,λi _ h0=>?_,λi j _ h0 h1 _=>?_,λj hj=>⟨0,bu,by decide,by show j<0+sz 7;have:sz 7=64:=rfl;omega⟩,λi _ h=>by cases h⟩,λi _ h0 h7=>?_⟩
 .show(if i=0 then 7 else 0)<=7;split<;>omega
 .rw[e i h0];exact⟨by decide,by decide⟩
 .show(if j=0 then 7 else 0)=0;rw[nJ]
 .rw[e i h0]at h7;exact aZ h7 bA
end Bd
open Go.RowKit
open Bd (P)
def po(w:bD)(b o:Nat):Nat:=match w.cell? ⟨b,o,bj⟩with|some v=>(intOf v).toNat|none=>0
theorem sr{w:bD}{b o n:Nat}(h:w.cell? ⟨b,o,bj⟩=bh (aa az (n:Int))):po w b o=n:=by unfold po;rw[h];rfl
theorem Hh(p:P)(i n:Nat):Bd.parts p i (n+1)=Bd.half (Bd.parts p i n) i:=by
 induction n generalizing p with
 |zero=>rfl
 |succ n ih=>show Bd.parts (Bd.half p i) i (n+1)=_;rw[ih];rfl
theorem Kb(x s:Nat):((x:Int)+(s:Int)).toNat=x+s:=bu
section
attribute [local go_sem] Kb
end
namespace Bd
theorem Iy{i k:Nat}(hk:1<=k)(hk6:k<=6)(hi:i<64)(h:i%sz k=0):cV i (sz k)<64/\(i/sz k%2=1->sz k<=i):=by
 have key:∀k,1<=k->k<=7->k<=6->∀x,x<64->x%sz k=0->cV x (sz k)<64/\(x/sz k%2=1->sz k<=x):=by
  refine nP (M:=λk s=>k<=6->∀x,x<64->x%s=0->cV x s<64/\(x/s%2=1->s<=x)) ?_ ?_ ?_ ?_ ?_ ?_ ?_
  all_goals
   intro hk x hx hm;refine⟨?_,λc=>bu⟩;unfold cV;split<;>omega
 exact key k hk bu hk6 i hi h
theorem LY{p:P}{i:Nat}(h:fE p i=false)(n:Nat):nX p i n=p:=by
 cases n with
 |zero=>rfl
 |succ n=>show(if fE p i=true then _ else p)=p;rw[h,aI bA]
theorem I9{p:P}{i:Nat}(h:fE p i=true)(n:Nat):nX p i (n+1)=nX (join p (min i (cV i (sz (p.ord i)))) (max i (cV i (sz (p.ord i))))) (min i (cV i (sz (p.ord i)))) n:=by
 show(if fE p i=true then _ else p)=_;rw[aJ h]
structure xb (q:P)(i n:Nat)(G:P):Prop where
 inv:Inv q
 lt:i<64
 pos:0<q.ord i
 tk:q.tk i=false
 fu:7<=q.ord i+n
 eq:nX q i n=G
theorem xb.start{p:P}(h:Inv p){i:Nat}(hi:i<64)(ht:p.tk i=true):xb {p with tk:=mX p.tk i false} i 7 (jR p i):=by
 refine⟨⟨h.le,h.al,h.own,h.Bv,λx hx hx0=>?_⟩,hi,h.tk i hi ht,?_,bu,rfl⟩
 .have:(if x=i then false else p.tk x)=true:=hx0;by_cases c:x=i
  .rw[aJ c]at this;cases this
  .rw[aI c]at this;exact h.tk x hx this
 .show(if i=i then false else p.tk i)=false;rw[aJ rfl]
theorem xb.next{q G:P}{i n:Nat}(h:xb q i (n+1) G)(f:fE q i=true):xb (join q (min i (cV i (sz (q.ord i)))) (max i (cV i (sz (q.ord i))))) (min i (cV i (sz (q.ord i)))) n G:=by
 have f':=f;unfold fE at f;simp only[Bool.and_eq_true,decide_eq_true_eq,Bool.not_eq_true']at f;have a:=h.inv.join h.lt h.pos f.1 h.tk f.2.1 f.2.2;exact⟨a.1,a.2.1,by rw[a.2.2.1];omega,a.2.2.2,by rw[a.2.2.1];have:=h.fu;omega,by rw[<-h.eq,I9 f']⟩
end Bd
namespace Bd
def BK(z:Int):Int:=if z<0\/6<z then 1 else 0
end Bd
namespace Bd
def st(p:P)(i:Nat):Nat:=if p.ord i=0 then 0 else if p.tk i=true then 2 else 1
def od(p:P)(i:Nat):Nat:=p.ord i-1
theorem zo{p:P}{i:Nat}(h:0<p.ord i)(t:p.tk i=false):st p i=1:=by unfold st;rw[nJ,aI (by rw[t];decide)]
theorem Nk{p:P}{i:Nat}(h:0<p.ord i)(t:p.tk i=true):st p i=2:=by unfold st;rw[nJ,aJ t]
theorem J5{p:P}{i:Nat}:st p i=1↔0<p.ord i/\p.tk i=false:=by
 constructor
 .intro h;unfold st at h;by_cases c:p.ord i=0
  .rw[aJ c]at h;omega
  .rw[aI c]at h;cases t:p.tk i
   .exact⟨by omega,rfl⟩
   .rw[aJ t]at h;omega
 .rintro⟨h1,h2⟩;exact zo h1 h2
theorem J6{p:P}(hI:Inv p){i:Nat}(hi:i<64):st p i=2↔p.tk i=true:=by
 constructor
 .intro h;unfold st at h;by_cases c:p.ord i=0
  .rw[aJ c]at h;omega
  .rw[aI c]at h;cases t:p.tk i
   .rw[aI (by rw[t];decide)]at h;omega
   .rfl
 .intro h;exact Nk (hI.tk i hi h) h
end Bd
structure CA (w:bD)(b:Nat)(s d:Nat->Nat):Prop where
 cU:∃C,w.heap[b]? =bh (bg C 280 (0,0))/\C.size=128
 c0:∀i,i<64->w.cell? ⟨b,i*2,bj⟩=bh (aa az (s i:Int))
 c1:∀i,i<64->w.cell? ⟨b,i*2+1,bj⟩=bh (aa az (d i:Int))
def dP(w:bD)(b:Nat)(p:P):Prop:=CA w b (Bd.st p) (Bd.od p)
section
variable {w w':bD}{b:Nat}{s d s' d':Nat->Nat}
theorem CA.drewN(h:CA w b s d)(n:Nat):CA (w.drewN n) b s d:=⟨h.cU,h.c0,h.c1⟩
theorem CA.drew(h:CA w b s d):CA w.drew b s d:=⟨h.cU,h.c0,h.c1⟩
theorem CA.frozen(h:CA w b s d)(o:Nat):w.frozen? ⟨b,o,bj⟩=false:=by obtain⟨C,h1,_⟩:=h.cU;exact cv h1 o
theorem CA.lt(h:CA w b s d):b<w.heap.size:=by obtain⟨C,h1,_⟩:=h.cU;exact(aX.1 h1).1
theorem CA.same(h:CA w b s d)(e:w'.heap[b]? =w.heap[b]?):CA w' b s d:=⟨by rw[e];exact h.cU,λo ho=>(aV e).trans (h.c0 o ho),λo ho=>(aV e).trans (h.c1 o ho)⟩
theorem CA.below(h:CA w b s d)(k:Below w.heap.size w w'):CA w' b s d:=h.same (k.block b h.lt)
theorem CA.congr(h:CA w b s d)(e:∀i,i<64->s' i=s i/\d' i=d i):CA w b s' d':=⟨h.cU,λi hi=>by rw[(e i hi).1];exact h.c0 i hi,λi hi=>by rw[(e i hi).2];exact h.c1 i hi⟩
theorem CA.zm(h:CA w b s d)(i v:Nat)(hi:i<64):CA (w.setCell ⟨b,i*2,bj⟩ (aa az (v:Int))) b (Bd.up s i v) d:=by
 obtain⟨C,h1,h2⟩:=h.cU;refine⟨⟨_,cE h1 _ _,by simpa using h2⟩,λj hj=>?_,λj hj=>?_⟩
 .unfold Bd.up;by_cases e:j=i
  .subst e;rw[du h1 _ _ bu,aJ rfl]
  .rw[da h1 _ _ _ bu,aI e];exact h.c0 j hj
 .rw[da h1 _ _ _ bu];exact h.c1 j hj
theorem CA.wE(h:CA w b s d)(i v:Nat)(hi:i<64):CA (w.setCell ⟨b,i*2+1,bj⟩ (aa az (v:Int))) b s (Bd.up d i v):=by
 obtain⟨C,h1,h2⟩:=h.cU;refine⟨⟨_,cE h1 _ _,by simpa using h2⟩,λj hj=>?_,λj hj=>?_⟩
 .rw[da h1 _ _ _ bu];exact h.c0 j hj
 .unfold Bd.up;by_cases e:j=i
  .subst e;rw[du h1 _ _ bu,aJ rfl]
  .rw[da h1 _ _ _ bu,aI e];exact h.c1 j hj
end
section
variable {w w':bD}{b:Nat}{p p':P}
theorem dP.drewN(h:dP w b p)(n:Nat):dP (w.drewN n) b p:=CA.drewN h n
theorem dP.drew(h:dP w b p):dP w.drew b p:=CA.drew h
theorem dP.frozen(h:dP w b p)(o:Nat):w.frozen? ⟨b,o,bj⟩=false:=CA.frozen h o
theorem dP.lt(h:dP w b p):b<w.heap.size:=CA.lt h
theorem dP.same(h:dP w b p)(e:w'.heap[b]? =w.heap[b]?):dP w' b p:=CA.same h e
theorem dP.below(h:dP w b p)(k:Below w.heap.size w w'):dP w' b p:=CA.below h k
theorem dP.tC(h:dP w b p)(i:Nat)(hi:i<64):w.cell? ⟨b,i*2,bj⟩=bh (aa az (Bd.st p i:Int)):=h.c0 i hi
theorem dP.vF(h:dP w b p)(i:Nat)(hi:i<64):w.cell? ⟨b,i*2+1,bj⟩=bh (aa az (Bd.od p i:Int)):=h.c1 i hi
end
def Bx:Array Value:=((List.range 128).map λ_=>aa .i64 0).toArray
theorem NY:Tryz.zeroCells280=Bx:=by kernel_rfl
theorem NV(i:Nat)(h:i<128):Bx[i]? =bh (aa .i64 0):=by simp[Bx,h]
theorem QK{w:bD}{b:Nat}(h:w.heap[b]? =bh (bg Bx 280 (0,0))):CA w b (λ_=>0) (λ_=>0):=by
 refine⟨⟨_,h,by simp[Bx]⟩,λo ho=>?_,λo ho=>?_⟩
 .rw[bO h,NV _ bu];rfl
 .rw[bO h,NV _ bu];rfl
theorem OS:∀(i:Fin 64) (k:Fin 7),IntKind.i64.wrap ((BitVec.ofInt 64 ((i.1:Nat):Int)^^^BitVec.ofInt 64 (((2^k.1:Nat)):Int)).toNat:Int)=((Bd.cV i.1 (2^k.1):Nat):Int):=by decide+kernel
theorem TG{w:bD}{b:Nat}(h:CA w b (Bd.up (λ_=>0) 0 1) (Bd.up (λ_=>0) 0 6)):dP w b Bd.b0:=by
 refine CA.congr h (λi _=>?_);unfold Bd.st Bd.od Bd.up Bd.b0;by_cases c:i=0<;>simp[c]
theorem Li(w:bD):Calls prog 163 #[] w λe w'=>e=bf (ai (bh ⟨w.heap.size,0,bj⟩))/\dP w' w.heap.size Bd.b0/\Below w.heap.size w w'/\w.heap.size<w'.heap.size:=by
 have Z:(w.alloc (bg Tryz.zeroCells280 280)).heap[w.heap.size]? =bh (bg Bx 280 (0,0)):=by
  rw[NY];exact heap_alloc_new w _
 have Z2:(w.alloc (bg ((Tryz.zeroCells280.setIfInBounds 0 (aa IntKind.i64 1)).setIfInBounds 1 (aa IntKind.i64 6)) 280)).heap[w.heap.size]? =bh (bg ((Bx.setIfInBounds 0 (aa IntKind.i64 1)).setIfInBounds 1 (aa IntKind.i64 6)) 280 (0,0)):=by
  rw[NY];exact heap_alloc_new w _
 have FIN:Hid (dP (w.alloc (bg ((Tryz.zeroCells280.setIfInBounds 0 (aa IntKind.i64 1)).setIfInBounds 1 (aa IntKind.i64 6)) 280)) w.heap.size Bd.b0):=hJ (by
  have h:=((QK Z).zm 0 1 bu).wE 0 6 bu;refine(TG h).same ?_;rw[Z2];exact(cE (cE Z 0 _) 1 _).symm)
 go_in
 go_wp2
 go_ret
 exact⟨rfl,FIN.v,(aQ _ _).alloc (aL _) _,by simp⟩
theorem rU(z:Int)(w:bD):Calls prog 320 #[aa az z] w λe w'=>e=bf (bG (Bd.BK z))/\w'=w:=by
 by_cases k:z<0\/6<z
 .have e:Hid (Bd.BK z=1):=hJ (aJ k);by_cases h0:z<0
  .clear k;go_in
   go_wp2
   go_ret
   rw[e.v];exact⟨rfl,rfl⟩
  .have h1:decide (z<0)=false:=by simp;omega
   have h2:6<z:=bu
   go_in
   go_wp2
   go_ret
   rw[e.v];exact⟨rfl,rfl⟩
 .have e:Hid (Bd.BK z=0):=hJ (aI k);have h1:decide (z<0)=false:=by simp;omega
  have h2:decide (6<z)=false:=by simp;omega
  go_in
  go_wp2
  go_ret
  rw[e.v];exact⟨rfl,rfl⟩
theorem R5(k:Nat)(hk:k<=6):wrap64 ((2:Int)^k)=((Bd.sz (k+1):Nat):Int):=by
 have:∀k:Fin 7,wrap64 ((2:Int)^k.1)=((Bd.sz (k.1+1):Nat):Int):=by decide+kernel
 exact this ⟨k,bu⟩
theorem Lc(i k:Nat)(hi:i<64)(hk:k<=6):bits BinOp.xor az (i:Int) ((Bd.sz (k+1):Nat):Int)=((Bd.cV i (Bd.sz (k+1)):Nat):Int):=by
 have:=OS ⟨i,hi⟩ ⟨k,bu⟩;unfold Bd.sz;rw[aP];exact this
theorem IM(k:Nat)(hk:k<=6)(w:bD):Calls prog 229 #[aa az k] w λe w'=>e=bf (aa az (Bd.sz (k+1):Int))/\w'=w:=by
 have E:=hJ (R5 k hk);go_in
 go_wp2
 go_ret
 rw[E.v];exact⟨rfl,rfl⟩
theorem tD(i k:Nat)(hi:i<64)(hk:k<=6)(w:bD):Calls prog 317 #[aa az i,aa az k] w λe w'=>e=bf (aa az (Bd.cV i (Bd.sz (k+1)):Int))/\w'=w:=by
 have E:=hJ (Lc i k hi hk);go_in
 go_wp2_with fail
 refine(IM k hk _).mono ?_;rintro e w1 ⟨rfl,hw⟩;subst w1;go_wp2
 go_ret
 rw[E.v];exact⟨rfl,rfl⟩
def Bd.wB(p:P)(z:Int):Nat:=if Bd.ia p z=0 then Bd.od p z.toNat else 0
theorem xG(b:Nat)(z:Int)(p:P)(w:bD)(h:dP w b p)(hI:Bd.Inv p):Calls prog 290 #[ai (bh ⟨b,0,bj⟩),aa az z] w λe w'=>e=bf (ao #[aa az (Bd.wB p z:Int),bG (Bd.ia p z)])/\w'=w:=by
 by_cases k:z<0\/63<z
 .have e:Hid (Bd.ia p z=1/\Bd.wB p z=0):=hJ (by
   have:Bd.ia p z=1:=aJ k;exact⟨this,by unfold Bd.wB;rw[this];rfl⟩)
  by_cases h0:z<0
  .clear k;go_in
   go_wp2
   go_ret2
   rw[e.1,e.2];exact⟨rfl,rfl⟩
  .have h1:decide (z<0)=false:=by simp;omega
   have h2:64<=z:=bu
   go_in
   go_wp2
   go_ret2
   rw[e.1,e.2];exact⟨rfl,rfl⟩
 .obtain⟨n,rfl⟩:=aG (show 0<=z by omega);have hn:n<64:=bu
  have h1:(n:Int)<64:=bu
  have h2:decide (64<=(n:Int))=false:=by simp;omega
  have c0:=h.tC n hn;have c1:=h.vF n hn;cases hh:p.tk n
  .have e:Hid (Bd.ia p n=2/\Bd.wB p n=0):=hJ (by
    have:Bd.ia p n=2:=by unfold Bd.ia;rw[aI k,hZ,hh];rfl
    exact⟨this,by unfold Bd.wB;rw[this];rfl⟩)
   have s2:((Bd.st p n:Int)==2)=false:=by
    have:Bd.st p n≠2:=λc=>by rw[(Bd.J6 hI hn).1 c]at hh;cases hh
    simp;omega
   generalize Bd.st p n=s at*;go_in
   go_wp2
   go_ret2
   rw[e.1,e.2];exact⟨rfl,rfl⟩
  .have e:Hid (Bd.ia p n=0/\Bd.wB p n=Bd.od p n):=hJ (by
    have:Bd.ia p n=0:=by unfold Bd.ia;rw[aI k,hZ,hh];rfl
    exact⟨this,by unfold Bd.wB;rw[this,aJ rfl,hZ]⟩)
   rw[(Bd.J6 hI hn).2 hh]at c0;have c0':w.cell? ⟨b,n*2,bj⟩=bh (aa .i64 2):=c0;go_in
   go_wp2
   go_ret2
   rw[e.1,e.2];exact⟨rfl,rfl⟩
theorem Pk{p:P}(hI:Bd.Inv p){x k:Nat}(hx:x<64)(ho:p.ord x=k+2)(ht:p.tk x=false){w:bD}{b:Nat}(h:CA w b (Bd.up (Bd.st p) (x+Bd.sz (k+1)) 1) (Bd.up (Bd.up (Bd.od p) x k) (x+Bd.sz (k+1)) k)):dP w b (Bd.half p x):=by
 have al:=hI.al x hx bu;rw[ho]at al;have sp:=Bd.rN (k+1);have ss:=Bd.nQ (k:=k+1) bu;have o0:=hI.own x (x+Bd.sz (k+1)) hx bu bu (by rw[ho,show k+2=k+1+1 from rfl,ss];omega);have t0:p.tk (x+Bd.sz (k+1))=false:=by
  cases c:p.tk (x+Bd.sz (k+1))
  .rfl
  .have:=hI.tk _ (by rw[show k+2=k+1+1 from rfl,ss]at al;omega) c;omega
 obtain⟨s,hs⟩:=hU (Bd.sz (k+1));rw[hs]at h sp o0 t0;have eo:∀i,(Bd.half p x).ord i=if i=x+s then k+1 else if i=x then k+1 else p.ord i:=λi=>by
  unfold Bd.half Bd.up;rw[ho,show k+2-1=k+1 from rfl,hs]
 have et:∀i,(Bd.half p x).tk i=p.tk i:=λi=>rfl;refine CA.congr h (λi _=>?_);unfold Bd.st Bd.od Bd.up;rw[eo,et];by_cases c1:i=x+s
 .subst c1;rw[aJ rfl,aJ rfl,aJ rfl,nJ,t0,aI bA];exact⟨rfl,rfl⟩
 .rw[aI c1,aI c1,aI c1];by_cases c2:i=x
  .subst c2;rw[aJ rfl,aJ rfl,nJ,ht,aI bA];refine⟨?_,rfl⟩;show 1=if p.ord i=0 then 0 else if p.tk i=true then 2 else 1;rw[ho,ht];rfl
  .rw[aI c2,aI c2];exact⟨rfl,rfl⟩
theorem IK(b x k:Nat)(p:P)(w:bD)(h:dP w b p)(hI:Bd.Inv p)(hx:x<64)(ho:p.ord x=k+2)(ht:p.tk x=false):
  Calls prog 322 #[ai (bh ⟨b,0,bj⟩),aa az x] w λe w'=>e=bf (ao #[])/\dP w' b (Bd.half p x)/\bE b w w':=by
 have al:=hI.al x hx bu;rw[ho]at al;have k5:k<=5:=by have:=hI.le x hx;omega
 have hb:=(Bd.yM (i:=x) (k:=k+1) bu bu rfl al.1).2.2.2;have y64:x+Bd.sz (k+1)<64:=by
  have ss:=Bd.nQ (k:=k+1) bu;have sp:=Bd.rN (k+1);rw[show k+2=k+1+1 from rfl,ss]at al;omega
 have c1:=h.vF x hx;have eo:Bd.od p x=k+1:=by unfold Bd.od;rw[ho];rfl
 rw[eo]at c1;have cf:=h.frozen;have xI:(x:Int)<64:=bu
 have FIN:Hid (∀W,CA W b (Bd.up (Bd.st p) (x+Bd.sz (k+1)) 1) (Bd.up (Bd.up (Bd.od p) x k) (x+Bd.sz (k+1)) k)->dP W b (Bd.half p x)):=hJ (λW hW=>Pk hI hx ho ht hW);have HF:=hJ h;have HH:=hJ (tD x k hx bu);rw[hb]at HH;obtain⟨y,hy⟩:=hU (x+Bd.sz (k+1));rw[hy]at HH FIN y64;have yI:(y:Int)<64:=bu
 have hw1:IntKind.i64.wrap (((k+1:Nat):Int)-1)=(k:Int):=by rw[show((k+1:Nat):Int)-1=(k:Int)by omega];exact aN _ ⟨by omega,bu⟩
 go_in
 go_wp2_with fail
 refine cG (λW=>CA W b (Bd.st p) (Bd.up (Bd.od p) x k)/\bE b w W) ⟨CA.wE HF.v x k hx,(bE.refl b w).setCell _ _⟩ ?_;rintro W1 ⟨h1,f1⟩;have S1:=hJ (aK h1 f1);have d0:=h1.c0 y y64;have d1:=h1.c1 y y64;have df:=h1.frozen;go_region_with ((go_at_call 317;refine sC (HH.v _) ?_;rintro w2 hw2;subst w2))
 go_end0
 exact⟨rfl,FIN.v _ ((S1.1.zm y 1 y64).wE y k y64).drew,((S1.2.setCell _ _).setCell _ _).drew⟩
theorem IX{q:P}{i:Nat}(h0:0<q.ord i):Bd.fE q i=(decide (Bd.od q i<6)&&(decide (Bd.st q (Bd.cV i (Bd.sz (Bd.od q i+1)))=1)&&decide (Bd.od q (Bd.cV i (Bd.sz (Bd.od q i+1)))=Bd.od q i))):=by
 have e:Bd.od q i+1=q.ord i:=by unfold Bd.od;omega
 rw[e];unfold Bd.fE;obtain⟨f,hf⟩:=hU (Bd.cV i (Bd.sz (q.ord i)));rw[hf];apply Bool.eq_iff_iff.2;simp only[Bool.and_eq_true,decide_eq_true_eq,Bool.not_eq_true',Bd.J5];have e2:Bd.od q f=q.ord f-1:=rfl;constructor
 .rintro⟨a,b,c⟩;exact⟨by omega,⟨by omega,c⟩,bu⟩
 .rintro⟨a,⟨b,c⟩,d⟩;exact⟨by omega,bu,c⟩
theorem xF(b i:Nat)(q:P)(w:bD)(h:dP w b q)(hI:Bd.Inv q)(hi:i<64)(h0:0<q.ord i):
  Calls prog 291 #[ai (bh ⟨b,0,bj⟩),aa az i] w λe w'=>e=bf (ar (Bd.fE q i))/\∃n,w'=w.drewN n:=by
 have c1:=h.vF i hi;have iI:(i:Int)<64:=bu
 have FI:=hJ (IX h0);have al:=(hI.al i hi h0).1;have e:Bd.od q i+1=q.ord i:=by unfold Bd.od;omega
 rw[<-e]at al;obtain⟨k,hk⟩:=hU (Bd.od q i);rw[hk]at c1 FI al e;have k6:k<=6:=by have:=hI.le i hi;omega
 by_cases hlt:k<6
 .have hltI:(k:Int)<6:=bu
  have BL:=(Bd.Iy (i:=i) (k:=k+1) bu bu hi al).1;have HH:=hJ (tD i k hi k6);obtain⟨f,hf⟩:=hU (Bd.cV i (Bd.sz (k+1)));rw[hf]at HH FI BL;rw[aO hlt,Bool.true_and]at FI;have fI:(f:Int)<64:=bu
  have d0:=h.tC f BL;have d1:=h.vF f BL;obtain⟨s,hs⟩:=hU (Bd.st q f);obtain⟨o,ho⟩:=hU (Bd.od q f);rw[hs]at d0 FI;rw[ho]at d1 FI;by_cases e1:s=1
  .by_cases e2:o=k
   .have FR:Hid (Bd.fE q i=true):=hJ (by rw[FI.v,aO e1,aO e2];rfl);subst e1 e2;go_in
    go_wp2_with fail
    go_quiet ((go_at_call 317;refine Calls.quiet_of_same (HH.v _)))
    go_wp2
    go_ret
    rw[FR.v];exact⟨rfl,_,rfl⟩
   .have FR:Hid (Bd.fE q i=false):=hJ (by rw[FI.v,aT e2];simp);have e2':((o:Int)==(k:Int))=false:=by simp;omega
    subst e1;go_in
    go_wp2_with fail
    go_quiet ((go_at_call 317;refine Calls.quiet_of_same (HH.v _)))
    go_wp2
    go_ret
    rw[FR.v];exact⟨rfl,_,rfl⟩
  .have FR:Hid (Bd.fE q i=false):=hJ (by rw[FI.v,aT e1];rfl);have e1':((s:Int)==1)=false:=by simp;omega
   go_in
   go_wp2_with fail
   go_quiet ((go_at_call 317;refine Calls.quiet_of_same (HH.v _)))
   go_wp2
   go_ret
   rw[FR.v];exact⟨rfl,_,rfl⟩
 .have hltI:decide ((k:Int)<6)=false:=by simp;omega
  have FR:Hid (Bd.fE q i=false):=hJ (by rw[FI.v,aT hlt];rfl);go_in
  go_wp2_with fail
  go_quiet (fail)
  go_wp2
  go_ret
  rw[FR.v];exact⟨rfl,_,rfl⟩
theorem EG{q:P}{lo hh:Nat}(hl0:0<q.ord lo)(hlt:q.tk lo=false)(hne:lo≠hh){w:bD}{b:Nat}(h:CA w b (Bd.up (Bd.st q) hh 0) (Bd.up (Bd.up (Bd.od q) lo (Bd.od q lo+1)) hh 0)):dP w b (Bd.join q lo hh):=by
 have eo:∀x,(Bd.join q lo hh).ord x=if x=lo then q.ord lo+1 else if x=hh then 0 else q.ord x:=λx=>rfl;have et:∀x,(Bd.join q lo hh).tk x=q.tk x:=λx=>rfl;refine CA.congr h (λi _=>?_);unfold Bd.st Bd.od Bd.up;rw[eo,et];by_cases c1:i=lo
 .subst c1;rw[aJ rfl,aI hne,aI hne,aJ rfl,nJ];refine⟨?_,by show q.ord i+1-1=q.ord i-1+1;omega⟩;show _=if q.ord i=0 then 0 else if q.tk i=true then 2 else 1;rw[hlt,aI (show¬q.ord i=0 by omega)]
 .rw[aI c1];by_cases c2:i=hh
  .subst c2;rw[aJ rfl,aJ rfl,aJ rfl,aJ rfl];exact⟨rfl,rfl⟩
  .rw[aI c2,aI c2,aI c2,aI c1];exact⟨rfl,rfl⟩
theorem II(b i:Nat)(q:P)(w:bD)(h:dP w b q)(hI:Bd.Inv q)(hi:i<64)(h0:0<q.ord i)(ht:q.tk i=false)(hf2:Bd.fE q i=true):
  Calls prog 292 #[ai (bh ⟨b,0,bj⟩),aa az i] w λe w'=>e=bf (aa az ((min i (Bd.cV i (Bd.sz (q.ord i))):Nat):Int))/\dP w' b (Bd.join q (min i (Bd.cV i (Bd.sz (q.ord i)))) (max i (Bd.cV i (Bd.sz (q.ord i)))))/\bE b w w':=by
 have c1:=h.vF i hi;have iI:(i:Int)<64:=bu
 have al:=(hI.al i hi h0).1;have e:Bd.od q i+1=q.ord i:=by unfold Bd.od;omega
 unfold Bd.fE at hf2;simp only[Bool.and_eq_true,decide_eq_true_eq,Bool.not_eq_true']at hf2;obtain⟨f1,f2,f3⟩:=hf2;obtain⟨k,hk⟩:=hU (Bd.od q i);rw[hk]at c1 e;have HH:=hJ (tD i k hi bu);have BL:=(Bd.Iy (i:=i) (k:=k+1) bu bu hi (by rw[e];exact al)).1;have BB:=(Bd.uZ (i:=i) (k:=k+1) bu bu (by rw[e];exact al)).2.2;rw[<-e]at f2 f3|-;obtain⟨f,hf⟩:=hU (Bd.cV i (Bd.sz (k+1)));rw[hf]at HH BL BB f2 f3|-;have fI:(f:Int)<64:=bu
 have HF:=hJ h;have cf:=h.frozen;have hw1:IntKind.i64.wrap ((k:Int)+1)=(k:Int)+1:=aN _ ⟨by omega,bu⟩;have of:Bd.od q f=k:=by unfold Bd.od;omega
 have d0:=h.tC i hi;have d1:=h.tC f BL;have d2:=h.vF f BL;have Of:=of;have Oi:=hk;generalize Bd.st q i=s0 at d0;generalize Bd.st q f=s1 at d1;rw[of]at d2;by_cases c:f<i
 .have mm:min i f=f/\max i f=i:=⟨by omega,bu⟩;rw[mm.1,mm.2];have FIN:Hid (∀W,CA W b (Bd.up (Bd.st q) i 0) (Bd.up (Bd.up (Bd.od q) f (k+1)) i 0)->dP W b (Bd.join q f i)):=hJ (λW hW=>EG bu (by assumption) bu (by rw[Of];exact hW));have cI:(f:Int)<(i:Int):=bu
  have cI':¬(i:Int)<(f:Int):=bu
  go_in
  go_wp2_with fail
  refine sC (HH.v _) ?_;rintro w2 hw2;subst w2;go_wp2
  go_ret
  exact⟨rfl,FIN.v _ (((CA.wE HF.v f (k+1) bu).zm i 0 bu).wE i 0 bu),(((bE.refl b w).setCell _ _).setCell _ _).setCell _ _⟩
 .have mm:min i f=i/\max i f=f:=⟨by omega,bu⟩;rw[mm.1,mm.2];have FIN:Hid (∀W,CA W b (Bd.up (Bd.st q) f 0) (Bd.up (Bd.up (Bd.od q) i (k+1)) f 0)->dP W b (Bd.join q i f)):=hJ (λW hW=>EG bu (by assumption) bu (by rw[Oi];exact hW));have cI:(i:Int)<(f:Int):=bu
  have cI':¬(f:Int)<(i:Int):=bu
  go_in
  go_wp2_with fail
  refine sC (HH.v _) ?_;rintro w2 hw2;subst w2;go_wp2
  go_ret
  exact⟨rfl,FIN.v _ (((CA.wE HF.v i (k+1) bu).zm f 0 bu).wE f 0 bu),(((bE.refl b w).setCell _ _).setCell _ _).setCell _ _⟩
def nO(s d:Nat->Nat):List Value:=(List.range 128).map λo=>if o%2=0 then aa az (s (o/2):Int)else aa az (d (o/2):Int)
theorem CK(s d:Nat->Nat):(nO s d).length=128:=by simp[nO]
theorem CA.range{w:bD}{b:Nat}{s d:Nat->Nat}(h:CA w b s d):w.rangeAt b 0 (nO s d):=λj v hv=>by
 have hj:j<128:=by have:=(aY.1 hv).1;rwa [CK]at this
 simp[nO,hj]at hv;rw[Nat.zero_add,<-hv];by_cases c:j%2=0
 .rw[aJ c];have:=h.c0 (j/2) bu;rw[show j/2*2=j by omega]at this;exact this
 .rw[aI c];have:=h.c1 (j/2) bu;rw[show j/2*2+1=j by omega]at this;exact this
theorem Qb(s d:Nat->Nat)(x:Nat)(h:x<64):(nO s d).toArray.extract (x*2) (x*2+2)=#[aa az (s x:Int),aa az (d x:Int)]:=by
 have hs:(nO s d).toArray.size=128:=by simp[nO]
 apply bL;intro i;rw[Array.getElem?_extract];by_cases hi:i<2
 .rw[aJ (by rw[hs];omega)];have e:(nO s d).toArray[x*2+i]? =bh (if(x*2+i)%2=0 then aa az (s ((x*2+i)/2):Int)else aa az (d ((x*2+i)/2):Int)):=by
   simp[nO,show x*2+i<128 by omega]
  rw[e,show(x*2+i)/2=x by omega]
  match i,hi with
  |0,_=>rw[nK];rfl
  |1,_=>rw[nJ];rfl
 .rw[aI (by rw[hs];omega),aR (by simp;omega)]
theorem Gw(s d:Nat->Nat)(x:Nat)(h:x<64)(w:bD):Sem.run prog (Instr.index 278 (au (nO s d).toArray) (aa az x)) w= .ok (au #[aa az (s x:Int),aa az (d x:Int)]) w:=by
 have hu:prog.underlying 278=bh (.array 64 277):=by kernel_rfl
 have hx:=Qb s d x h;have h1:(x:Int)<64:=bu
 obtain⟨A,hA⟩:=hU ((nO s d).toArray);rw[hA]at hx|-;simp[Instr.index,Sem.run_bind,run_underlying hu,go_sem,hx];intro c;omega
theorem JX(s d:Nat->Nat):(prog.info? 278).map (·.size)=bh (nO s d).length:=by rw[CK];kernel_rfl
def A8(p:P)(o r:Nat)(is:Bool):Prop:=(is=false/\r=0/\∀j,j<64->o<p.ord j->p.tk j=true)\/(is=true/\Bd.Fz p o r)
def Im(p:P)(o k:Nat):Prop:=∀j,j<64->o<p.ord j->p.tk j=false->k<p.ord j
theorem Gi(b o:Nat)(p:P)(w:bD)(h:dP w b p)(hI:Bd.Inv p)(ho:o<=6):
  Calls prog 321 #[ai (bh ⟨b,0,bj⟩),aa az o] w λe w'=>∃r is,e=bf (ao #[aa az ((r:Nat):Int),ar is])/\A8 p o r is/\Below w.heap.size w w':=by
 have HF:=hJ h;have HI:=hJ hI;have hsz:=hJ (JX (Bd.st p) (Bd.od p));clear h hI;go_in
 go_wp2
 go_loopw [6] (λs wr=>∃k:Nat,s=aa az k/\o<=k/\k<=7/\Hid (Below w.heap.size w wr/\Im p o k)) (λs _=>7-(intOf s).toNat)
 case atStart=>exact⟨o,rfl,bu,bu,aQ _ _,λj _ h1 _=>h1⟩
 case round=>
  obtain⟨k,rfl,hok,hk7,S⟩:=hrel;by_cases hk:k<=6
  .have hkI:(k:Int)<=6:=bu
   have HR:=hJ (CA.range (dP.below HF.v S.1));go_wp2_with (refine wpList_load_mid rfl 278 _ rfl b 0 rfl (nO (Bd.st p) (Bd.od p)) (.array 64 277) HR.v bw rfl hsz.v ?_)
   clear HR;go_loopw [18] (λs wr=>∃x:Nat,s=aa az x/\x<=64/\Hid (Below w.heap.size w wr/\∀j,j<x->¬(Bd.st p j=1/\Bd.od p j=k))) (λs _=>64-(intOf s).toNat)
   case atStart=>exact⟨0,rfl,bu,S.1,λj hj=>bu⟩
   case round=>
    obtain⟨x,rfl,hx64,T⟩:=hrel;by_cases hx:x<64
    .have hxI:(x:Int)<64:=bu
     have hix:=Gw (Bd.st p) (Bd.od p) x hx;have BL:Hid (∀o,Below w.heap.size w (wr.alloc o)):=hJ (λo=>T.1.alloc T.1.size o);have NX:Hid (¬(Bd.st p x=1/\Bd.od p x=k)->∀j,j<x+1->¬(Bd.st p j=1/\Bd.od p j=k)):=hJ (λc j hj=>by
      by_cases e:j=x
      .rw[e];exact c
      .exact T.2 j bu)
     have FD:Hid (Bd.st p x=1->Bd.od p x=k->A8 p o x true):=hJ (λc1 c2=>by
      have a:=Bd.J5.1 c1;have e:Bd.od p x=p.ord x-1:=rfl;refine .inr ⟨rfl,hx,bu,a.2,λj hj h1 h2=>?_⟩;have nt:=S.2 j hj h1 h2;by_cases c:p.ord x<p.ord j
      .exact .inl c
      .refine .inr ⟨by omega,Nat.le_of_not_lt λc3=>?_⟩;exact T.2 j c3 ⟨Bd.zo bu h2,by show p.ord j-1=k;omega⟩)
     generalize Bd.st p x=sx at*;generalize Bd.od p x=dx at*;by_cases e1:sx=1
     .by_cases e2:dx=k
      .have F:=hJ (FD.v e1 e2);subst e1 e2;clear FD NX;go_wp2
       go_ret2
       exact⟨x,true,rfl,F.v,BL.v _⟩
      .have N:=hJ (NX.v (λc=>e2 c.2));have e2':((dx:Int)==(k:Int))=false:=by simp;omega
       subst e1;clear FD NX e2;go_wp2
       go_roundw
       case rel=>exact⟨x+1,by go_num,bu,BL.v _,N.v⟩
       case measure=>simp[intOf];omega
     .have N:=hJ (NX.v (λc=>e1 c.1));have e1':((sx:Int)==1)=false:=by simp;omega
      clear FD NX e1;go_wp2
      go_roundw
      case rel=>exact⟨x+1,by go_num,bu,BL.v _,N.v⟩
      case measure=>simp[intOf];omega
    .have NN:Hid (Im p o (k+1)):=hJ (λj hj h1 h2=>by
      have:=S.2 j hj h1 h2;by_cases c:p.ord j=k+1
      .exact aZ ⟨Bd.zo bu h2,by show p.ord j-1=k;omega⟩ (T.2 j bu)
      .omega)
     have hx':x=64:=bu
     subst hx';go_wp2
     go_roundw
     case rel=>exact⟨k+1,by go_num,bu,bu,T.1,NN.v⟩
     case measure=>simp[intOf];omega
  .have hk':k=7:=bu
   subst hk';have FIN:Hid (A8 p o 0 false):=hJ (.inl ⟨rfl,rfl,λj hj h1=>by
    cases t:p.tk j
    .have:=S.2 j hj h1 t;have:=HI.le j hj;omega
    .rfl⟩)
   go_wp2
   go_ret2
   exact⟨0,false,rfl,FIN.v,S.1⟩
theorem Nn{p:P}{o x:Nat}{w:bD}{b:Nat}(ho:0<(Bd.parts p x (p.ord x-(o+1))).ord x)(h:dP w b (Bd.parts p x (p.ord x-(o+1))))(hx:x<64):dP (w.setCell ⟨b,x*2,bj⟩ (aa .i64 2)) b (Bd.lg p o x):=by
 refine CA.congr (CA.zm h x 2 hx) (λi _=>?_);unfold Bd.lg Bd.st Bd.od Bd.up Bd.mX;by_cases c:i=x
 .subst c;show(if(Bd.parts p i (p.ord i-(o+1))).ord i=0 then 0 else if(if i=i then true else _)=true then 2 else 1)=(if i=i then 2 else _)/\_;rw[nJ,aJ rfl,aJ rfl,aJ rfl];exact⟨rfl,rfl⟩
 .show(if(Bd.parts p x (p.ord x-(o+1))).ord i=0 then 0 else if(if i=x then true else(Bd.parts p x (p.ord x-(o+1))).tk i)=true then 2 else 1)=(if i=x then 2 else _)/\_;rw[aI c,aI c];exact⟨rfl,rfl⟩
theorem Gk(b o:Nat)(p:P)(w:bD)(h:dP w b p)(hI:Bd.Inv p)(hN:Bd.NB p 64)(ho:o<=6):
  Calls prog 296 #[ai (bh ⟨b,0,bj⟩),aa az o] w λe w'=>∃(r:Nat) (E:Int) (p':P),e=bf (ao #[aa az r,bG E])/\Bd.pC p o E r p'/\dP w' b p'/\bE b w w':=by
 have HF:=hJ h;have HI:=hJ hI;have NI:=hJ hN;have HE:Hid (Bd.BK (o:Int)=0):=hJ (nJ);go_in
 go_wp2_with fail
 refine sC (rU o _) ?_;rintro w1 hw;subst w1;rw[HE.v,bB];go_wp2_with fail
 refine(Gi b o p _ HF.v HI.v ho).mono ?_;rintro e w1 ⟨x,is,rfl,hL,hB⟩;have S1:Hid (dP w1 b p/\bE b w w1):=hJ ⟨HF.below hB,bE.cC hB⟩;rcases hL with⟨rfl,rfl,hno⟩|⟨rfl,hB⟩
 .have FIN:Hid (Bd.pC p o 4 0 p):=hJ (.inr (.inl ⟨by omega,by rw[hZ];exact hno,rfl,rfl,rfl⟩));go_wp2
  go_ret2
  exact⟨0,4,p,rfl,FIN.v,S1.1,S1.2⟩
 .have HB:=hJ hB;have hx64:=hB.lt;have hxI:(x:Int)<64:=bu
  have S2:Hid (dP w1 b (Bd.parts p x 0)/\bE b w w1/\o+1+0<=p.ord x):=hJ ⟨S1.1,S1.2,by have:=hB.ord;omega⟩;go_wp2_with fail
  go_loopw [31] (λ_ wr=>∃n:Nat,Hid (dP wr b (Bd.parts p x n)/\bE b w wr/\o+1+n<=p.ord x)) (λ_ wr=>po wr b (x*2+1))
  case atStart=>exact⟨0,S2⟩
  case round=>
   obtain⟨n,S⟩:=hrel;have PI:=hJ (Bd.Ae hx64 n (by have:=S.2.2;have:=HB.ord;omega) HI.v HB.tk ((NI.v).but HI.v x));have hw7:=HI.le x hx64;obtain⟨q,hq⟩:=hU (Bd.parts p x n);have HQ:=hJ hq;have c1:=S.1.vF x hx64;have T:=hJ S.1;rw[hq]at c1 T PI;obtain⟨u,hu⟩:=hU (Bd.od q x);rw[hu]at c1;have eu:u+1+n=p.ord x:=by have:=PI.2.2.1;have:=S.2.2;have:Bd.od q x=q.ord x-1:=rfl;omega
   have uo:q.ord x=u+1:=by have:=PI.2.2.1;omega
   have UO:=hJ uo;have CC:=hJ c1;have HT:Hid (q.tk x=false):=hJ (by rw[PI.2.2.2];exact HB.tk);by_cases hgt:o<u
   .obtain⟨k,rfl⟩:∃k,u=k+1:=⟨u-1,bu⟩;have hgtI:(o:Int)<((k+1:Nat):Int):=bu
    go_wp2_with fail
    refine sC (IK b x k q _ T.v PI.1 hx64 UO.v HT.v) ?_;rintro w2 ⟨t2,f2⟩;have T2:Hid (dP w2 b (Bd.parts p x (n+1))/\bE b w w2/\o+1+(n+1)<=p.ord x):=hJ ⟨by rw[Hh,HQ.v];exact t2,S.2.1.trans f2,bu⟩;have CN:Hid (po w2 b (x*2+1)=k):=hJ (sr (by
     rw[t2.vF x hx64];have:=(PI.1.half hx64 (by rw[UO.v];omega) HT.v).2.1;unfold Bd.od;rw[this,UO.v];rfl))
    go_wp2
    go_roundw
    case rel=>exact⟨n+1,T2⟩
    case measure=>
     rw[CN.v,sr CC.v];omega
   .have hgtI:decide ((o:Int)<(u:Int))=false:=by simp;omega
    have EN:Hid (n=p.ord x-(o+1)):=hJ (by have:=S.2.2;omega);have c3:=T.tC x hx64;have cf:=T.frozen;have T3:Hid (dP (wr.setCell ⟨b,x*2,bj⟩ (aa .i64 2)) b (Bd.lg p o x)/\bE b w (wr.setCell ⟨b,x*2,bj⟩ (aa .i64 2))):=hJ (by
     refine⟨Nn ?_ ?_ hx64,S.2.1.setCell _ _⟩
     .rw[<-EN.v,HQ.v,UO.v];omega
     .rw[<-EN.v];exact S.1)
    go_wp2
    go_ret2
    exact⟨x,0,_,rfl, .inr (.inr ⟨by omega,by rw[hZ];exact HB.v,rfl,by rw[hZ]⟩),T3.1,T3.2⟩
theorem DC(b:Nat)(z:Int)(w:bD)(k:z<0\/6<z):
  Calls prog 296 #[ai (bh ⟨b,0,bj⟩),aa az z] w λe w'=>e=bf (ao #[aa az 0,bG 1])/\w'=w:=by
 have HE:Hid (Bd.BK z=1):=hJ (aJ k);go_in
 go_wp2_with fail
 refine sC (rU z _) ?_;rintro w1 hw;subst w1;rw[HE.v,bC bA];go_wp2
 go_ret2
 exact⟨rfl,rfl⟩
theorem IN(b:Nat)(z:Int)(p:P)(w:bD)(h:dP w b p)(hI:Bd.Inv p)(hN:Bd.NB p 64):
  Calls prog 296 #[ai (bh ⟨b,0,bj⟩),aa az z] w λe w'=>∃(r:Nat) (E:Int) (p':P),e=bf (ao #[aa az r,bG E])/\Bd.pC p z E r p'/\dP w' b p'/\bE b w w':=by
 by_cases k:z<0\/6<z
 .refine sC (DC b z w k) ?_;rintro w' rfl;exact⟨0,1,p,rfl, .inl ⟨k,rfl,rfl,rfl⟩,h,bE.refl _ _⟩
 .obtain⟨o,rfl⟩:=aG (show 0<=z by omega);exact Gk b o p w h hI hN bu
theorem QW{p:P}{j:Nat}{w:bD}{b:Nat}(h0:0<p.ord j)(h:dP w b p)(hj:j<64):dP (w.setCell ⟨b,j*2,bj⟩ (aa .i64 1)) b {p with tk:=Bd.mX p.tk j false}:=by
 refine CA.congr (CA.zm h j 1 hj) (λi _=>?_);unfold Bd.st Bd.od Bd.up Bd.mX;by_cases c:i=j
 .subst c;show(if p.ord i=0 then 0 else if(if i=i then false else _)=true then 2 else 1)=(if i=i then 1 else _)/\_;rw[nJ,aJ rfl,aJ rfl];exact⟨rfl,rfl⟩
 .show(if p.ord i=0 then 0 else if(if i=j then false else p.tk i)=true then 2 else 1)=(if i=j then 1 else _)/\_;rw[aI c,aI c];exact⟨rfl,rfl⟩
theorem DB(b:Nat)(z:Int)(p:P)(w:bD)(h:dP w b p)(hI:Bd.Inv p)(k:Bd.ia p z≠0):
  Calls prog 271 #[ai (bh ⟨b,0,bj⟩),aa az z] w λe w'=>e=bf (bG (Bd.ia p z))/\w'=w:=by
 have HF:=hJ (aK h hI);obtain⟨E,hE⟩:=hU (Bd.ia p z);have HX:=hJ hE;rw[hE]at k;have HK:=hJ k;go_in
 go_wp2_with fail
 refine sC (xG b z p _ HF.1 HF.2) ?_;rintro w1 hw;subst w1;rw[HX.v,bC HK.v];go_wp2
 go_ret
 rw[HX.v,bC HK.v];exact⟨rfl,rfl⟩
theorem Le(b j:Nat)(p:P)(w:bD)(h:dP w b p)(hI:Bd.Inv p)(hj:j<64)(ht:p.tk j=true):
  Calls prog 271 #[ai (bh ⟨b,0,bj⟩),aa az j] w λe w'=>e=bf (bG 0)/\dP w' b (Bd.jR p j)/\bE b w w':=by
 have HF:=hJ (aK h hI);have HK:Hid (Bd.ia p j=0):=hJ (by unfold Bd.ia;rw[nJ,hZ,aJ ht]);have c0:=h.tC j hj;have cf0:=h.frozen;have hjI:(j:Int)<64:=bu
 have S0:Hid (dP (w.setCell ⟨b,j*2,bj⟩ (aa .i64 1)) b {p with tk:=Bd.mX p.tk j false}/\bE b w (w.setCell ⟨b,j*2,bj⟩ (aa .i64 1))/\Bd.xb {p with tk:=Bd.mX p.tk j false} j 7 (Bd.jR p j)):=hJ ⟨QW (hI.tk j hj ht) h hj,(bE.refl b w).setCell _ _,Bd.xb.start hI hj ht⟩;clear h hI ht;go_in
 go_wp2_with fail
 refine sC (xG b j p _ HF.1 HF.2) ?_;rintro w1 hw;subst w1;rw[HK.v,bB];go_wp2_with fail
 refine cG (λW=>dP W b {p with tk:=Bd.mX p.tk j false}/\bE b w W/\Bd.xb {p with tk:=Bd.mX p.tk j false} j 7 (Bd.jR p j)) S0.v ?_;intro W1 h1;have S1:=hJ h1;clear h1 S0 c0 cf0;go_loopw [1] (λs wr=>∃(i n:Nat) (q:P),s=aa az i/\n<=7/\Hid (dP wr b q/\bE b w wr/\Bd.xb q i n (Bd.jR p j))) (λs wr=>6-po wr b ((intOf s).toNat*2+1))
 case atStart=>exact⟨j,7,_,rfl,bu,S1⟩
 case round=>
  clear S1;obtain⟨i,n,q,rfl,hn7,S⟩:=hrel;have hi:=S.2.2.lt;have CC:=hJ (S.1.vF i hi);cases fr:Bd.fE q i
  .have FR:=hJ fr;have EQ:Hid (q=Bd.jR p j):=hJ (by rw[<-S.2.2.eq,Bd.LY fr]);clear fr;go_wp2_with fail
   refine sC (xF b i q _ S.1 S.2.2.inv hi S.2.2.pos) ?_;rintro w2 ⟨nq,hw2⟩;have T:Hid (dP w2 b q/\bE b w w2):=hJ (by rw[hw2];exact⟨S.1.drewN nq,S.2.1.drewN nq⟩);clear hw2;rw[FR.v];go_wp2
   go_ret
   exact⟨rfl,by rw[<-EQ.v];exact T.1,T.2⟩
  .have FR:=hJ fr;have lt7:q.ord i<7:=by
    unfold Bd.fE at fr;simp only[Bool.and_eq_true,decide_eq_true_eq]at fr;exact fr.1
   obtain⟨m,rfl⟩:∃m,n=m+1:=⟨n-1,by have:=S.2.2.fu;omega⟩;have GN:=hJ (S.2.2.next fr);have L7:=hJ lt7;have JO:=hJ (by
    have f:=fr;unfold Bd.fE at f;simp only[Bool.and_eq_true,decide_eq_true_eq,Bool.not_eq_true']at f;exact(S.2.2.inv.join hi S.2.2.pos f.1 S.2.2.tk f.2.1 f.2.2).2.2.1)
   clear fr lt7;go_wp2_with fail
   refine sC (xF b i q _ S.1 S.2.2.inv hi S.2.2.pos) ?_;rintro w2 ⟨nq,hw2⟩;have T:Hid (dP w2 b q/\bE b w w2):=hJ (by rw[hw2];exact⟨S.1.drewN nq,S.2.1.drewN nq⟩);clear hw2;rw[FR.v];go_wp2_with fail
   refine sC (II b i q _ T.1 S.2.2.inv hi S.2.2.pos S.2.2.tk FR.v) ?_;rintro w3 ⟨t3,f3⟩;have T3:=hJ (aK t3 (T.2.trans f3));clear t3 f3;obtain⟨lo,hlo⟩:=hU (min i (Bd.cV i (Bd.sz (q.ord i))));rw[hlo];rw[hlo]at T3 GN JO;have CN:Hid (po w3 b (lo*2+1)=q.ord i):=hJ (sr (by
    rw[T3.1.vF lo GN.lt];unfold Bd.od;rw[JO.v];rfl))
   clear hlo;go_wp2
   go_roundw
   case rel=>exact⟨lo,m,_,by first|rfl|trivial,bu,T3.1,T3.2,GN.v⟩
   case measure=>
    simp only[intOf,hZ];rw[CN.v,sr CC.v];have:=L7.v;have:=S.2.2.pos;show _<6-(q.ord i-1);omega
theorem IB(b:Nat)(z:Int)(p:P)(w:bD)(h:dP w b p)(hI:Bd.Inv p):
  Calls prog 271 #[ai (bh ⟨b,0,bj⟩),aa az z] w λe w'=>e=bf (bG (Bd.ia p z))/\dP w' b (Bd.kE p z)/\bE b w w':=by
 by_cases k:Bd.ia p z=0
 .have k':=k;unfold Bd.ia at k';by_cases c1:z<0\/63<z
  .rw[aJ c1]at k';omega
  .rw[aI c1]at k';obtain⟨j,rfl⟩:=aG (show 0<=z by omega);rw[hZ]at k';have ht:p.tk j=true:=by
    cases t:p.tk j
    .rw[t,aI bA]at k';omega
    .rfl
   refine sC (Le b j p w h hI bu ht) ?_;rintro w' ⟨h1,h2⟩;unfold Bd.kE;rw[k,aJ rfl,hZ];exact⟨rfl,h1,h2⟩
 .refine sC (DB b z p w h hI k) ?_;rintro w' rfl;unfold Bd.kE;rw[aI k];exact⟨rfl,h,bE.refl _ _⟩
