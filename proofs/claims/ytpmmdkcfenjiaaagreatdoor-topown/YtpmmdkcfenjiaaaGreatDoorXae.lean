import Derived.Test.YtpmmdkcfenjiaaaGreatDoorXab
set_option maxRecDepth 100000
set_option maxHeartbeats 2000000
set_option linter.unusedVariables false
set_option linter.unusedSimpArgs false
namespace Go.Proofs.YtpmmdkcfenjiaaaGreatDoor
open Value renaming int->aa,pointer->ai,tuple->ao
open IntKind renaming i64->bf
open Ending renaming returned->bw
open Option renaming some->bB,none->bC
open Bool renaming true->bE,false->bF
open Tryz (prog)
variable {b i k n o x:Nat}{w:bD}
namespace Bd
structure P where
 ord:Nat->Nat
 tk:Nat->Bool
def sz(k:Nat):Nat:=2^(k-1)
theorem oL{M:Nat->Nat->Prop}(h1:M 1 1)(h2:M 2 2)(h3:M 3 4)(h4:M 4 8)(h5:M 5 16)(h6:M 6 32)(h7:M 7 64)(k:Nat)(a:1<=k)(b:k<=7):M k (sz k):=by
 match k,a,b with
 |1,_,_=>exact h1
 |2,_,_=>exact h2
 |3,_,_=>exact h3
 |4,_,_=>exact h4
 |5,_,_=>exact h5
 |6,_,_=>exact h6
 |7,_,_=>exact h7
theorem oM(h:1<=k):sz (k+1)=2*sz k:=by
 unfold sz;obtain⟨j,rfl⟩:∃j,k=j+1:=⟨k-1,bG⟩;rw[aP,aP,Nat.pow_succ];omega
theorem sJ(k:Nat):0<sz k:=Nat.two_pow_pos _
def dm(i s:Nat):Nat:=if i/s%2=1 then i-s else i+s
structure Inv (b:P):Prop where
 le:∀i,i<64->b.ord i<=7
 al:∀i,i<64->0<b.ord i->i%sz (b.ord i)=0/\i+sz (b.ord i)<=64
 own:∀i j,i<64->0<b.ord i->i<j->j<i+sz (b.ord i)->b.ord j=0
 CY:∀j,j<64->∃i,i<=j/\0<b.ord i/\j<i+sz (b.ord i)
 tk:∀i,i<64->b.tk i=bE->0<b.ord i
def NB(b:P)(e:Nat):Prop:=∀i,i<64->0<b.ord i->b.ord i<7->b.tk i=bF->i≠e->dm i (sz (b.ord i))≠e->¬(b.ord (dm i (sz (b.ord i)))=b.ord i/\b.tk (dm i (sz (b.ord i)))=bF)
def up(f:Nat->Nat)(i v:Nat):Nat->Nat:=λj=>if j=i then v else f j
def ob(f:Nat->Bool)(i:Nat)(v:Bool):Nat->Bool:=λj=>if j=i then v else f j
def half(b:P)(i:Nat):P:={b with ord:=up (up b.ord i (b.ord i-1)) (i+sz (b.ord i-1)) (b.ord i-1)}
def join(b:P)(lo hi:Nat):P:={b with ord:=up (up b.ord hi 0) lo (b.ord lo+1)}
section
variable {b:P}
theorem zO{s:Nat}(hk:1<=k)(hk6:k<=6)(hs:s=sz k)(h:i%sz (k+1)=0):i%s=0/\(i+s)%s=0/\dm (i+s) s=i/\dm i s=i+s:=by
 rw[oM hk,<-hs]at h;have:∀k,1<=k->k<=7->∀i,i%(2*sz k)=0->i%sz k=0/\(i+sz k)%sz k=0/\dm (i+sz k) (sz k)=i/\dm i (sz k)=i+sz k:=by
  refine oL (M:=λ_ s=>∀i,i%(2*s)=0->i%s=0/\(i+s)%s=0/\dm (i+s) s=i/\dm i s=i+s) ?_ ?_ ?_ ?_ ?_ ?_ ?_
  all_goals
   intro i hi;unfold dm;refine⟨by omega,bG,?_,?_⟩
   .rw[nK];omega
   .rw[nJ]
 rw[hs]at h|-;exact this k hk bG i h
theorem vT(hk:1<=k)(hk6:k<=6)(h:i%sz k=0):dm (dm i (sz k)) (sz k)=i/\(dm i (sz k))%sz k=0/\dm i (sz k)≠i:=by
 have:∀k,1<=k->k<=7->∀i,i%sz k=0->dm (dm i (sz k)) (sz k)=i/\(dm i (sz k))%sz k=0/\dm i (sz k)≠i:=by
  refine oL (M:=λ_ s=>∀i,i%s=0->dm (dm i s) s=i/\(dm i s)%s=0/\dm i s≠i) ?_ ?_ ?_ ?_ ?_ ?_ ?_
  all_goals
   intro i hi;refine⟨?_,?_,?_⟩<;>(unfold dm;repeat' split)<;>omega
 exact this k hk bG i h
theorem Sc(hk:1<=k)(hk6:k<=6)(h:i%sz k=0):(min i (dm i (sz k)))%sz (k+1)=0/\max i (dm i (sz k))=min i (dm i (sz k))+sz k:=by
 rw[oM hk];have:∀k,1<=k->k<=7->∀i,i%sz k=0->(min i (dm i (sz k)))%(2*sz k)=0/\max i (dm i (sz k))=min i (dm i (sz k))+sz k:=by
  refine oL (M:=λ_ s=>∀i,i%s=0->(min i (dm i s))%(2*s)=0/\max i (dm i s)=min i (dm i s)+s) ?_ ?_ ?_ ?_ ?_ ?_ ?_
  all_goals
   intro i hi;refine⟨?_,?_⟩<;>(unfold dm;split)<;>omega
 exact this k hk bG i h
theorem Inv.half(h:Inv b){i:Nat}(hi:i<64)(ho:2<=b.ord i)(ht:b.tk i=bF):Inv (half b i)/\(half b i).ord i=b.ord i-1/\(half b i).tk=b.tk:=by
 obtain⟨k,hk⟩:∃k,b.ord i=k+1:=⟨b.ord i-1,bG⟩;have hk1:1<=k:=bG
 have hle:=h.le i hi;have al:=h.al i hi bG;rw[hk]at al;have ah:=zO hk1 bG rfl al.1;have hs:=oM hk1;have sp:=sJ k;obtain⟨s,es⟩:=hU (sz k);have own:=h.own i;rw[hk]at own;have eo:∀x,(Bd.half b i).ord x=if x=i+s then k else if x=i then k else b.ord x:=λx=>by
  unfold Bd.half up;rw[hk,aP,es]
 rw[es]at ah hs sp;have ei:(Bd.half b i).ord i=k:=by rw[eo,nJ,aJ rfl]
 have eu:(Bd.half b i).ord (i+s)=k:=by rw[eo,aJ rfl]
 have en:∀x,x≠i->x≠i+s->(Bd.half b i).ord x=b.ord x:=λx h1 h2=>by rw[eo,aI h2,aI h1]
 have ou:b.ord (i+s)=0:=own (i+s) hi bG bG bG;refine⟨⟨λx hx=>?_,λx hx h0=>?_,λx y hx h0 h1 h2=>?_,λy hy=>?_,λx hx h0=>?_⟩,by rw[ei,hk];rfl,rfl⟩
 .by_cases c1:x=i
  .rw[c1,ei];omega
  .by_cases c2:x=i+s
   .rw[c2,eu];omega
   .rw[en x c1 c2];exact h.le x hx
 .by_cases c1:x=i
  .rw[c1,ei,es];exact⟨ah.1,bG⟩
  .by_cases c2:x=i+s
   .rw[c2,eu,es];exact⟨ah.2.1,bG⟩
   .rw[en x c1 c2]at h0|-;exact h.al x hx h0
 .by_cases c1:x=i
  .rw[c1,ei,es]at h2;rw[en y bG bG];exact own y hi bG bG bG
  .by_cases c2:x=i+s
   .rw[c2,eu,es]at h2;rw[en y bG bG];exact own y hi bG bG bG
   .rw[en x c1 c2]at h0 h2;have hy:=h.own x y hx h0 h1 h2;by_cases c3:y=i
    .rw[c3,hk]at hy;omega
    .by_cases c4:y=i+s
     .exfalso;by_cases c5:x<i
      .have:=h.own x i hx h0 c5 bG;omega
      .have:=own x hi bG bG bG;omega
     .rw[en y c3 c4];exact hy
 .obtain⟨a,a1,a2,a3⟩:=h.CY y hy;by_cases c1:a=i
  .rw[c1,hk]at a3;by_cases c:y<i+s
   .exact⟨i,bG,by rw[ei];omega,by rw[ei,es];exact c⟩
   .exact⟨i+s,bG,by rw[eu];omega,by rw[eu,es];omega⟩
  .have c2:a≠i+s:=λc=>by rw[c,ou]at a2;omega
   exact⟨a,a1,by rw[en a c1 c2];exact a2,by rw[en a c1 c2];exact a3⟩
 .have h0':b.tk x=bE:=h0;have:=h.tk x hx h0';by_cases c1:x=i
  .rw[c1,ht]at h0';cases h0'
  .by_cases c2:x=i+s
   .rw[c2,eu];omega
   .rw[en x c1 c2];exact this
theorem NB.half(h:Inv b){i:Nat}(hi:i<64)(ho:2<=b.ord i)(n:NB b i):NB (half b i) i:=by
 obtain⟨k,hk⟩:∃k,b.ord i=k+1:=⟨b.ord i-1,bG⟩;have hk1:1<=k:=bG
 have hle:=h.le i hi;have al:=h.al i hi bG;rw[hk]at al;have ah:=zO hk1 bG rfl al.1;have sp:=sJ k;obtain⟨s,es⟩:=hU (sz k);rw[es]at ah sp;have eo:∀x,(Bd.half b i).ord x=if x=i+s then k else if x=i then k else b.ord x:=λx=>by
  unfold Bd.half up;rw[hk,aP,es]
 have eu:(Bd.half b i).ord (i+s)=k:=by rw[eo,aJ rfl]
 have en:∀x,x≠i->x≠i+s->(Bd.half b i).ord x=b.ord x:=λx h1 h2=>by rw[eo,aI h2,aI h1]
 intro x hx h0 h7 ht hxi hbi;by_cases c2:x=i+s
 .rw[c2,eu,es,ah.2.2.1]at hbi;exact aZ rfl hbi
 .rw[en x hxi c2]at h0 h7 hbi|-;by_cases c3:dm x (sz (b.ord x))=i+s
  .rw[c3,eu];rintro⟨e1,_⟩;have bb:=vT (i:=x) (k:=b.ord x) bG bG (h.al x hx h0).1;rw[c3,<-e1,es,ah.2.2.1]at bb;exact hxi bb.1.symm
  .rw[en _ hbi c3];exact n x hx h0 h7 ht hxi hbi
theorem Inv.join(h:Inv b){at_:Nat}(hi:at_<64)(h0:0<b.ord at_)(h7:b.ord at_<7)(ht:b.tk at_=bF)(ho:b.ord (dm at_ (sz (b.ord at_)))=b.ord at_)(ht2:b.tk (dm at_ (sz (b.ord at_)))=bF):
  Inv (join b (min at_ (dm at_ (sz (b.ord at_)))) (max at_ (dm at_ (sz (b.ord at_)))))/\min at_ (dm at_ (sz (b.ord at_)))<64/\(join b (min at_ (dm at_ (sz (b.ord at_)))) (max at_ (dm at_ (sz (b.ord at_))))).ord (min at_ (dm at_ (sz (b.ord at_))))=b.ord at_+1/\b.tk (min at_ (dm at_ (sz (b.ord at_))))=bF:=by
 obtain⟨k,hk⟩:=hU (b.ord at_);rw[hk]at h0 h7 ho ht2|-;have al:=h.al at_ hi bG;rw[hk]at al;have bl:=Sc h0 bG al.1;have hs:=oM h0;have sp:=sJ k;obtain⟨hf,ehf⟩:=hU (dm at_ (sz k));obtain⟨s,es⟩:=hU (sz k);rw[ehf]at ho ht2 bl|-;obtain⟨lo,elo⟩:=hU (min at_ hf);obtain⟨hh,ehh⟩:=hU (max at_ hf);rw[elo,ehh]at bl|-;rw[es]at bl hs sp;have lo64:lo<64:=bG
 have ol:b.ord lo=k/\b.tk lo=bF:=by
  by_cases c:lo=at_
  .rw[c];exact⟨hk,ht⟩
  .rw[show lo=hf by omega];exact⟨ho,ht2⟩
 have oh:b.ord hh=k/\b.tk hh=bF:=by
  by_cases c:hh=at_
  .rw[c];exact⟨hk,ht⟩
  .rw[show hh=hf by omega];exact⟨ho,ht2⟩
 have hh64:hh+s<=64:=by
  have a2:=al.2;rw[es]at a2;by_cases c:hh=at_
  .rw[c];exact a2
  .have:lo=at_:=bG
   rw[hs]at bl;have l64:lo%(2*s)=0:=bl.1;have key:∀k,1<=k->k<=7->k<=6->∀x,x<64->x%(2*sz k)=0->x+2*sz k<=64:=by
    refine oL (M:=λk s=>k<=6->∀x,x<64->x%(2*s)=0->x+2*s<=64) ?_ ?_ ?_ ?_ ?_ ?_ ?_
    all_goals
     intro hk x hx hm;omega
   have:=key k h0 bG bG lo lo64 (by rw[es];exact l64);rw[es]at this;omega
 have eo:∀x,(Bd.join b lo hh).ord x=if x=lo then k+1 else if x=hh then 0 else b.ord x:=λx=>by
  unfold Bd.join up;rw[ol.1]
 have el:(Bd.join b lo hh).ord lo=k+1:=by rw[eo,aJ rfl]
 have eh:(Bd.join b lo hh).ord hh=0:=by rw[eo,nJ,aJ rfl]
 have en:∀x,x≠lo->x≠hh->(Bd.join b lo hh).ord x=b.ord x:=λx h1 h2=>by rw[eo,aI h1,aI h2]
 refine⟨⟨λx hx=>?_,λx hx x0=>?_,λx y hx x0 h1 h2=>?_,λy hy=>?_,λx hx x0=>?_⟩,lo64,el,ol.2⟩
 .by_cases c1:x=lo
  .rw[c1,el];omega
  .by_cases c2:x=hh
   .rw[c2,eh];omega
   .rw[en x c1 c2];exact h.le x hx
 .by_cases c1:x=lo
  .rw[c1,el];exact⟨bl.1,by rw[hs];omega⟩
  .by_cases c2:x=hh
   .rw[c2,eh]at x0;omega
   .rw[en x c1 c2]at x0|-;exact h.al x hx x0
 .by_cases c1:x=lo
  .rw[c1,el,hs]at h2;by_cases c2:y=hh
   .rw[c2,eh]
   .rw[en y bG c2];by_cases c3:y<hh
    .exact h.own lo y lo64 bG bG (by rw[ol.1,es];omega)
    .exact h.own hh y bG bG bG (by rw[oh.1,es];omega)
  .by_cases c2:x=hh
   .rw[c2,eh]at x0;omega
   .rw[en x c1 c2]at x0 h2;have hy:=h.own x y hx x0 h1 h2;by_cases c3:y=lo
    .rw[c3,ol.1]at hy;omega
    .by_cases c4:y=hh
     .rw[c4,eh]
     .rw[en y c3 c4];exact hy
 .obtain⟨a,a1,a2,a3⟩:=h.CY y hy;by_cases c1:a=lo
  .rw[c1,ol.1,es]at a3;exact⟨lo,bG,by rw[el];omega,by rw[el,hs];omega⟩
  .by_cases c2:a=hh
   .rw[c2,oh.1,es]at a3;exact⟨lo,bG,by rw[el];omega,by rw[el,hs];omega⟩
   .exact⟨a,a1,by rw[en a c1 c2];exact a2,by rw[en a c1 c2];exact a3⟩
 .have x0':b.tk x=bE:=x0;by_cases c1:x=lo
  .rw[c1,el];omega
  .by_cases c2:x=hh
   .rw[c2,oh.2]at x0';cases x0'
   .rw[en x c1 c2];exact h.tk x hx x0'
theorem NB.join(h:Inv b){at_:Nat}(hi:at_<64)(h0:0<b.ord at_)(h7:b.ord at_<7)(n:NB b at_):
  NB (join b (min at_ (dm at_ (sz (b.ord at_)))) (max at_ (dm at_ (sz (b.ord at_))))) (min at_ (dm at_ (sz (b.ord at_)))):=by
 have bb:=vT (i:=at_) (k:=b.ord at_) h0 bG (h.al at_ hi h0).1;obtain⟨hf,ehf⟩:=hU (dm at_ (sz (b.ord at_)));rw[ehf]at bb|-;obtain⟨lo,elo⟩:=hU (min at_ hf);obtain⟨hh,ehh⟩:=hU (max at_ hf);rw[elo,ehh];have ne:=bb.2.2;have eo:∀x,(Bd.join b lo hh).ord x=if x=lo then b.ord lo+1 else if x=hh then 0 else b.ord x:=λx=>rfl;have eh:(Bd.join b lo hh).ord hh=0:=by rw[eo,nJ,aJ rfl]
 have en:∀x,x≠lo->x≠hh->(Bd.join b lo hh).ord x=b.ord x:=λx h1 h2=>by rw[eo,aI h1,aI h2]
 intro x hx x0 x7 ht hxl hbl;have c2:x≠hh:=λc=>by rw[c,eh]at x0;omega
 rw[en x hxl c2]at x0 x7 hbl|-;by_cases c3:dm x (sz (b.ord x))=hh
 .rw[c3,eh];rintro⟨e,_⟩;omega
 .rw[en _ hbl c3];exact n x hx x0 x7 ht bG bG
theorem NB.all{e:Nat}(n:NB b e)(he:e<64)(h:Inv b)(c:b.tk e=bE\/b.ord e=0\/7<=b.ord e\/b.tk (dm e (sz (b.ord e)))=bE\/b.ord (dm e (sz (b.ord e)))≠b.ord e):NB b 64:=by
 intro x hx x0 x7 ht _ _ hc;by_cases c1:x=e
 .subst c1;rcases c with c|c|c|c|c
  .rw[c]at ht;cases ht
  .omega
  .omega
  .rw[hc.2]at c;cases c
  .exact c hc.1
 .by_cases c2:dm x (sz (b.ord x))=e
  .rw[c2]at hc;have bb:=vT (i:=x) (k:=b.ord x) bG bG (h.al x hx x0).1;rw[c2,<-hc.1]at bb;rcases c with c|c|c|c|c
   .rw[hc.2]at c;cases c
   .rw[c]at hc;omega
   .omega
   .rw[bb.1,ht]at c;cases c
   .rw[bb.1]at c;exact c hc.1.symm
  .exact n x hx x0 x7 ht c1 c2 hc
end
end Bd
namespace Bd
structure G9 (b:P)(o i:Nat):Prop where
 lt:i<64
 ord:o<b.ord i
 tk:b.tk i=bF
 least:∀j,j<64->o<b.ord j->b.tk j=bF->b.ord i<b.ord j\/(b.ord i=b.ord j/\i<=j)
def parts(b:P)(i:Nat):Nat->P
 |0=>b
 |n+1=>parts (half b i) i n
def lY(b:P)(o i:Nat):P:={parts b i (b.ord i-(o+1))with tk:=ob (parts b i (b.ord i-(o+1))).tk i bE}
def qg(b:P)(z e:Int)(r:Nat)(b':P):Prop:=((z<0\/6<z)/\e=1/\r=0/\b'=b)\/(¬(z<0\/6<z)/\(∀j,j<64->z.toNat<b.ord j->b.tk j=bE)/\e=4/\r=0/\b'=b)\/(¬(z<0\/6<z)/\G9 b z.toNat r/\e=0/\b'=lY b z.toNat r)
def iC(b:P)(z:Int):Int:=if z<0\/63<z then 1 else if b.tk z.toNat=bE then 0 else 2
def ga(b:P)(i:Nat):Bool:=decide (b.ord i<7)&&(decide (b.ord (dm i (sz (b.ord i)))=b.ord i)&& !b.tk (dm i (sz (b.ord i))))
def oT(b:P)(i:Nat):Nat->P
 |0=>b
 |n+1=>if ga b i=bE then oT (join b (min i (dm i (sz (b.ord i)))) (max i (dm i (sz (b.ord i))))) (min i (dm i (sz (b.ord i)))) n else b
def kJ(b:P)(i:Nat):P:=oT {b with tk:=ob b.tk i bF} i 7
def lu(b:P)(z:Int):P:=if iC b z=0 then kJ b z.toNat else b
theorem Br{b:P}(hi:i<64):∀n,n<b.ord i->Inv b->b.tk i=bF->NB b i->Inv (parts b i n)/\NB (parts b i n) i/\(parts b i n).ord i=b.ord i-n/\(parts b i n).tk=b.tk:=by
 intro n
 induction n generalizing b with
 |zero=>intro _ h1 _ h3;exact⟨h1,h3,rfl,rfl⟩
 |succ n ih=>
  intro hn h1 h2 h3;have a:=h1.half hi bG h2;have r:=ih (b:=half b i) (by rw[a.2.1];omega) a.1 (by rw[a.2.2];exact h2) (h3.half h1 hi bG);refine⟨r.1,r.2.1,?_,?_⟩
  .show(parts (half b i) i n).ord i=_;rw[r.2.2.1,a.2.1];omega
  .show(parts (half b i) i n).tk=_;rw[r.2.2.2,a.2.2]
theorem NB.but{b:P}(n:NB b 64)(h:Inv b)(e:Nat):NB b e:=λi hi h0 h7 ht _ _=>n i hi h0 h7 ht bG (by
 have al:=h.al i hi h0;have key:∀k,1<=k->k<=7->k<=6->∀x,x<64->x%sz k=0->dm x (sz k)≠64:=by
  refine oL (M:=λk s=>k<=6->∀x,x<64->x%s=0->dm x s≠64) ?_ ?_ ?_ ?_ ?_ ?_ ?_
  all_goals
   intro hk x hx hm;unfold dm;split<;>omega
 exact key _ h0 bG bG i hi al.1)
theorem Inv.taken{b:P}(h:Inv b)(h0:0<b.ord i)(n:NB b i)(hi:i<64):Inv {b with tk:=ob b.tk i bE}/\NB {b with tk:=ob b.tk i bE} 64:=by
 refine⟨⟨h.le,h.al,h.own,h.CY,λx hx hx0=>?_⟩,?_⟩
 .by_cases c:x=i
  .rw[c];exact h0
  .have:(if x=i then bE else b.tk x)=bE:=hx0;rw[aI c]at this;exact h.tk x hx this
 .have n':NB {b with tk:=ob b.tk i bE} i:=λx hx x0 x7 ht xi bi hc=>by
   have e1:b.tk x=bF:=by
    have:(if x=i then bE else b.tk x)=bF:=ht;rw[aI xi]at this;exact this
   have e2:b.tk (dm x (sz (b.ord x)))=bF:=by
    have:(if dm x (sz (b.ord x))=i then bE else b.tk (dm x (sz (b.ord x))))=bF:=hc.2;rw[aI bi]at this;exact this
   exact n x hx x0 x7 e1 xi bi ⟨hc.1,e2⟩
  have i':Inv {b with tk:=ob b.tk i bE}:=⟨h.le,h.al,h.own,h.CY,λx hx hx0=>by
   by_cases c:x=i
   .rw[c];exact h0
   .have:(if x=i then bE else b.tk x)=bE:=hx0;rw[aI c]at this;exact h.tk x hx this⟩
  exact n'.all hi i' (.inl (by show(if i=i then bE else b.tk i)=bE;rw[aJ rfl]))
theorem Inv.lY{b:P}(h:Inv b)(n:NB b 64){o i:Nat}(k:G9 b o i):Inv (lY b o i)/\NB (lY b o i) 64/\(lY b o i).ord i=o+1/\(lY b o i).tk i=bE/\i%sz (o+1)=0/\∀j,j≠i->(Bd.lY b o i).tk j=b.tk j:=by
 have hb:=k.ord;have r:=Br k.lt (b.ord i-(o+1)) bG h k.tk (n.but h i);have eo:(parts b i (b.ord i-(o+1))).ord i=o+1:=by rw[r.2.2.1];omega
 have t:=r.1.taken (by rw[eo];omega) r.2.1 k.lt;refine⟨t.1,t.2,eo,?_,?_,λj hj=>?_⟩
 .show(if i=i then bE else _)=bE;rw[aJ rfl]
 .have:=(r.1.al i k.lt (by rw[eo];omega)).1;rw[eo]at this;exact this
 .show(if j=i then bE else(parts b i (b.ord i-(o+1))).tk j)=_;rw[aI hj,r.2.2.2]
theorem Inv.take{b b':P}(h:Inv b)(n:NB b 64){z e:Int}{r:Nat}(k:qg b z e r b'):Inv b'/\NB b' 64:=by
 rcases k with⟨_,_,_,rfl⟩|⟨_,_,_,_,rfl⟩|⟨_,k,_,rfl⟩
 .exact⟨h,n⟩
 .exact⟨h,n⟩
 .have:=h.lY n k;exact⟨this.1,this.2.1⟩
theorem Kg:∀(n:Nat) {b:P} {i:Nat},i<64->0<b.ord i->7<=b.ord i+n->Inv b->b.tk i=bF->NB b i->Inv (oT b i n)/\NB (oT b i n) 64/\(oT b i n).tk=b.tk:=by
 intro n
 induction n with
 |zero=>intro b i hi h0 hn h1 h2 h3;exact⟨h1,h3.all hi h1 (.inr (.inr (.inl bG))),rfl⟩
 |succ n ih=>
  intro b i hi h0 hn h1 h2 h3;show Inv (if ga b i=bE then _ else b)/\NB (if ga b i=bE then _ else b) 64/\(if ga b i=bE then _ else b).tk=b.tk;by_cases c:ga b i=bE
  .rw[aJ c];unfold ga at c;simp only[Bool.and_eq_true,decide_eq_true_eq,Bool.not_eq_true']at c;have a:=h1.join hi h0 c.1 h2 c.2.1 c.2.2;have r:=ih (b:=join b (min i (dm i (sz (b.ord i)))) (max i (dm i (sz (b.ord i))))) (i:=min i (dm i (sz (b.ord i)))) a.2.1 (by rw[a.2.2.1];omega) (by rw[a.2.2.1];omega) a.1 a.2.2.2 (h3.join h1 hi h0 c.1);exact⟨r.1,r.2.1,r.2.2⟩
  .rw[aI c];refine⟨h1,h3.all hi h1 ?_,rfl⟩;by_cases c1:b.ord i<7
   .by_cases c2:b.ord (dm i (sz (b.ord i)))=b.ord i
    .refine .inr (.inr (.inr (.inl ?_)));cases c3:b.tk (dm i (sz (b.ord i)))
     .exact aZ (by unfold ga;simp[c1,c2,c3]) c
     .rfl
    .exact .inr (.inr (.inr (.inr c2)))
   .exact .inr (.inr (.inl bG))
theorem Inv.kJ{b:P}(h:Inv b)(n:NB b 64){i:Nat}(hi:i<64)(ht:b.tk i=bE):Inv (kJ b i)/\NB (kJ b i) 64/\(kJ b i).tk=ob b.tk i bF:=by
 have h0:=h.tk i hi ht;have i':Inv {b with tk:=ob b.tk i bF}:=⟨h.le,h.al,h.own,h.CY,λx hx hx0=>by
  have:(if x=i then bF else b.tk x)=bE:=hx0;by_cases c:x=i
  .rw[aJ c]at this;cases this
  .rw[aI c]at this;exact h.tk x hx this⟩
 have n':NB {b with tk:=ob b.tk i bF} i:=λx hx x0 x7 htx xi bi hc=>by
  have e1:b.tk x=bF:=by
   have:(if x=i then bF else b.tk x)=bF:=htx;rw[aI xi]at this;exact this
  have e2:b.tk (dm x (sz (b.ord x)))=bF:=by
   have:(if dm x (sz (b.ord x))=i then bF else b.tk (dm x (sz (b.ord x))))=bF:=hc.2;rw[aI bi]at this;exact this
  exact(n.but h i) x hx x0 x7 e1 xi bi ⟨hc.1,e2⟩
 exact Kg 7 (b:={b with tk:=ob b.tk i bF}) hi h0 bG i' (by show(if i=i then bF else b.tk i)=bF;rw[aJ rfl]) n'
theorem Inv.Su{b:P}(h:Inv b)(n:NB b 64)(z:Int):Inv (lu b z)/\NB (lu b z) 64:=by
 unfold lu;by_cases c:iC b z=0
 .rw[aJ c];unfold iC at c;by_cases c1:z<0\/63<z
  .rw[aJ c1]at c;omega
  .rw[aI c1]at c;by_cases c2:b.tk z.toNat=bE
   .have:=h.kJ n bG c2;exact⟨this.1,this.2.1⟩
   .rw[aI c2]at c;omega
 .rw[aI c];exact⟨h,n⟩
def b0:P:=⟨λi=>if i=0 then 7 else 0,λ_=>bF⟩
theorem xp:Inv b0/\NB b0 64:=by
 have e:∀i,0<b0.ord i->i=0:=λi h=>by
  by_cases c:i=0
  .exact c
  .have:(if i=0 then 7 else 0)>0:=h;rw[aI c]at this;omega
 refine⟨⟨λi _=>?_,λi _ h0=>?_,λi j _ h0 h1 _=>?_,λj hj=>⟨0,bG,by decide,by show j<0+sz 7;have:sz 7=64:=rfl;omega⟩,λi _ h=>by cases h⟩,λi _ h0 h7=>?_⟩
 .show(if i=0 then 7 else 0)<=7;split<;>omega
 .rw[e i h0];exact⟨by decide,by decide⟩
 .show(if j=0 then 7 else 0)=0;rw[nJ]
 .rw[e i h0]at h7;exact aZ h7 bM
end Bd
open Go.RowKit
open Bd (P)
def pZ(w:bD)(b o:Nat):Nat:=match w.cell? ⟨b,o,bC⟩with|some v=>(intOf v).toNat|none=>0
theorem ta(h:w.cell? ⟨b,o,bC⟩=bB (aa bf (n:Int))):pZ w b o=n:=by unfold pZ;rw[h];rfl
theorem IY(p:P)(i n:Nat):Bd.parts p i (n+1)=Bd.half (Bd.parts p i n) i:=by
 induction n generalizing p with
 |zero=>rfl
 |succ n ih=>show Bd.parts (Bd.half p i) i (n+1)=_;rw[ih];rfl
theorem LJ(x s:Nat):((x:Int)+(s:Int)).toNat=x+s:=bG
section
attribute [local go_sem] LJ
end
namespace Bd
theorem JE(hk:1<=k)(hk6:k<=6)(hi:i<64)(h:i%sz k=0):dm i (sz k)<64/\(i/sz k%2=1->sz k<=i):=by
 have key:∀k,1<=k->k<=7->k<=6->∀x,x<64->x%sz k=0->dm x (sz k)<64/\(x/sz k%2=1->sz k<=x):=by
  refine oL (M:=λk s=>k<=6->∀x,x<64->x%s=0->dm x s<64/\(x/s%2=1->s<=x)) ?_ ?_ ?_ ?_ ?_ ?_ ?_
  all_goals
   intro hk x hx hm;refine⟨?_,λc=>bG⟩;unfold dm;split<;>omega
 exact key k hk bG hk6 i hi h
theorem Nt{p:P}(h:ga p i=bF)(n:Nat):oT p i n=p:=by
 cases n with
 |zero=>rfl
 |succ n=>show(if ga p i=bE then _ else p)=p;rw[h,aI bM]
theorem Kh{p:P}(h:ga p i=bE)(n:Nat):oT p i (n+1)=oT (join p (min i (dm i (sz (p.ord i)))) (max i (dm i (sz (p.ord i))))) (min i (dm i (sz (p.ord i)))) n:=by
 show(if ga p i=bE then _ else p)=_;rw[aJ h]
structure yg (q:P)(i n:Nat)(G:P):Prop where
 inv:Inv q
 lt:i<64
 pos:0<q.ord i
 tk:q.tk i=bF
 fu:7<=q.ord i+n
 eq:oT q i n=G
theorem yg.start{p:P}(h:Inv p)(hi:i<64)(ht:p.tk i=bE):yg {p with tk:=ob p.tk i bF} i 7 (kJ p i):=by
 refine⟨⟨h.le,h.al,h.own,h.CY,λx hx hx0=>?_⟩,hi,h.tk i hi ht,?_,bG,rfl⟩
 .have:(if x=i then bF else p.tk x)=bE:=hx0;by_cases c:x=i
  .rw[aJ c]at this;cases this
  .rw[aI c]at this;exact h.tk x hx this
 .show(if i=i then bF else p.tk i)=bF;rw[aJ rfl]
theorem yg.next{q G:P}(h:yg q i (n+1) G)(f:ga q i=bE):yg (join q (min i (dm i (sz (q.ord i)))) (max i (dm i (sz (q.ord i))))) (min i (dm i (sz (q.ord i)))) n G:=by
 have f':=f;unfold ga at f;simp only[Bool.and_eq_true,decide_eq_true_eq,Bool.not_eq_true']at f;have a:=h.inv.join h.lt h.pos f.1 h.tk f.2.1 f.2.2;exact⟨a.1,a.2.1,by rw[a.2.2.1];omega,a.2.2.2,by rw[a.2.2.1];have:=h.fu;omega,by rw[<-h.eq,Kh f']⟩
end Bd
namespace Bd
def Dg(z:Int):Int:=if z<0\/6<z then 1 else 0
end Bd
namespace Bd
def st(p:P)(i:Nat):Nat:=if p.ord i=0 then 0 else if p.tk i=bE then 2 else 1
def od(p:P)(i:Nat):Nat:=p.ord i-1
theorem Aw{p:P}(h:0<p.ord i)(t:p.tk i=bF):st p i=1:=by unfold st;rw[nJ,aI (by rw[t];decide)]
theorem OP{p:P}(h:0<p.ord i)(t:p.tk i=bE):st p i=2:=by unfold st;rw[nJ,aJ t]
theorem Lw{p:P}:st p i=1↔0<p.ord i/\p.tk i=bF:=by
 constructor
 .intro h;unfold st at h;by_cases c:p.ord i=0
  .rw[aJ c]at h;omega
  .rw[aI c]at h;cases t:p.tk i
   .exact⟨by omega,rfl⟩
   .rw[aJ t]at h;omega
 .rintro⟨h1,h2⟩;exact Aw h1 h2
theorem Lx{p:P}(hI:Inv p)(hi:i<64):st p i=2↔p.tk i=bE:=by
 constructor
 .intro h;unfold st at h;by_cases c:p.ord i=0
  .rw[aJ c]at h;omega
  .rw[aI c]at h;cases t:p.tk i
   .rw[aI (by rw[t];decide)]at h;omega
   .rfl
 .intro h;exact OP (hI.tk i hi h) h
end Bd
structure CA (w:bD)(b:Nat)(s d:Nat->Nat):Prop where
 dk:∃C,w.heap[b]? =bB (.cells C 280 (0,0))/\C.size=128
 c0:∀i,i<64->w.cell? ⟨b,i*2,bC⟩=bB (aa bf (s i:Int))
 c1:∀i,i<64->w.cell? ⟨b,i*2+1,bC⟩=bB (aa bf (d i:Int))
def eE(w:bD)(b:Nat)(p:P):Prop:=CA w b (Bd.st p) (Bd.od p)
section
variable {w w':bD}{b:Nat}{s d s' d':Nat->Nat}
theorem CA.drewN(h:CA w b s d)(n:Nat):CA (w.drewN n) b s d:=⟨h.dk,h.c0,h.c1⟩
theorem CA.drew(h:CA w b s d):CA w.drew b s d:=⟨h.dk,h.c0,h.c1⟩
theorem CA.frozen(h:CA w b s d)(o:Nat):w.frozen? ⟨b,o,bC⟩=bF:=by obtain⟨C,h1,_⟩:=h.dk;exact cL h1 o
theorem CA.lt(h:CA w b s d):b<w.heap.size:=by obtain⟨C,h1,_⟩:=h.dk;exact(aX.1 h1).1
theorem CA.same(h:CA w b s d)(e:w'.heap[b]? =w.heap[b]?):CA w' b s d:=⟨by rw[e];exact h.dk,λo ho=>(aV e).trans (h.c0 o ho),λo ho=>(aV e).trans (h.c1 o ho)⟩
theorem CA.below(h:CA w b s d)(k:Below w.heap.size w w'):CA w' b s d:=h.same (k.block b h.lt)
theorem CA.congr(h:CA w b s d)(e:∀i,i<64->s' i=s i/\d' i=d i):CA w b s' d':=⟨h.dk,λi hi=>by rw[(e i hi).1];exact h.c0 i hi,λi hi=>by rw[(e i hi).2];exact h.c1 i hi⟩
theorem CA.Au(h:CA w b s d)(i v:Nat)(hi:i<64):CA (w.setCell ⟨b,i*2,bC⟩ (aa bf (v:Int))) b (Bd.up s i v) d:=by
 obtain⟨C,h1,h2⟩:=h.dk;refine⟨⟨_,cT h1 _ _,by simpa using h2⟩,λj hj=>?_,λj hj=>?_⟩
 .unfold Bd.up;by_cases e:j=i
  .subst e;rw[dH h1 _ _ bG,aJ rfl]
  .rw[dw h1 _ _ _ bG,aI e];exact h.c0 j hj
 .rw[dw h1 _ _ _ bG];exact h.c1 j hj
theorem CA.xG(h:CA w b s d)(i v:Nat)(hi:i<64):CA (w.setCell ⟨b,i*2+1,bC⟩ (aa bf (v:Int))) b s (Bd.up d i v):=by
 obtain⟨C,h1,h2⟩:=h.dk;refine⟨⟨_,cT h1 _ _,by simpa using h2⟩,λj hj=>?_,λj hj=>?_⟩
 .rw[dw h1 _ _ _ bG];exact h.c0 j hj
 .unfold Bd.up;by_cases e:j=i
  .subst e;rw[dH h1 _ _ bG,aJ rfl]
  .rw[dw h1 _ _ _ bG,aI e];exact h.c1 j hj
end
section
variable {w w':bD}{b:Nat}{p p':P}
theorem eE.drewN(h:eE w b p)(n:Nat):eE (w.drewN n) b p:=CA.drewN h n
theorem eE.drew(h:eE w b p):eE w.drew b p:=CA.drew h
theorem eE.frozen(h:eE w b p)(o:Nat):w.frozen? ⟨b,o,bC⟩=bF:=CA.frozen h o
theorem eE.lt(h:eE w b p):b<w.heap.size:=CA.lt h
theorem eE.same(h:eE w b p)(e:w'.heap[b]? =w.heap[b]?):eE w' b p:=CA.same h e
theorem eE.below(h:eE w b p)(k:Below w.heap.size w w'):eE w' b p:=CA.below h k
theorem eE.uB(h:eE w b p)(i:Nat)(hi:i<64):w.cell? ⟨b,i*2,bC⟩=bB (aa bf (Bd.st p i:Int)):=h.c0 i hi
theorem eE.wK(h:eE w b p)(i:Nat)(hi:i<64):w.cell? ⟨b,i*2+1,bC⟩=bB (aa bf (Bd.od p i:Int)):=h.c1 i hi
end
def C5:Array Value:=((List.range 128).map λ_=>aa .i64 0).toArray
theorem Ph:Tryz.zeroCells280=C5:=by kernel_rfl
theorem Pg(i:Nat)(h:i<128):C5[i]? =bB (aa .i64 0):=by simp[C5,h]
theorem Se(h:w.heap[b]? =bB (.cells C5 280 (0,0))):CA w b (λ_=>0) (λ_=>0):=by
 refine⟨⟨_,h,by simp[C5]⟩,λo ho=>?_,λo ho=>?_⟩
 .rw[cA h,Pg _ bG];rfl
 .rw[cA h,Pg _ bG];rfl
theorem Qi:∀(i:Fin 64) (k:Fin 7),IntKind.i64.wrap ((BitVec.ofInt 64 ((i.1:Nat):Int)^^^BitVec.ofInt 64 (((2^k.1:Nat)):Int)).toNat:Int)=((Bd.dm i.1 (2^k.1):Nat):Int):=by decide+kernel
theorem U0(h:CA w b (Bd.up (λ_=>0) 0 1) (Bd.up (λ_=>0) 0 6)):eE w b Bd.b0:=by
 refine CA.congr h (λi _=>?_);unfold Bd.st Bd.od Bd.up Bd.b0;by_cases c:i=0<;>simp[c]
theorem MS(w:bD):Calls prog 163 #[] w λe w'=>e=bw (ai (bB ⟨w.heap.size,0,bC⟩))/\eE w' w.heap.size Bd.b0/\Below w.heap.size w w'/\w.heap.size<w'.heap.size:=by
 have Z:(w.alloc (.cells Tryz.zeroCells280 280)).heap[w.heap.size]? =bB (.cells C5 280 (0,0)):=by
  rw[Ph];exact heap_alloc_new w _
 have Z2:(w.alloc (.cells ((Tryz.zeroCells280.setIfInBounds 0 (aa IntKind.i64 1)).setIfInBounds 1 (aa IntKind.i64 6)) 280)).heap[w.heap.size]? =bB (.cells ((C5.setIfInBounds 0 (aa IntKind.i64 1)).setIfInBounds 1 (aa IntKind.i64 6)) 280 (0,0)):=by
  rw[Ph];exact heap_alloc_new w _
 have FIN:Hid (eE (w.alloc (.cells ((Tryz.zeroCells280.setIfInBounds 0 (aa IntKind.i64 1)).setIfInBounds 1 (aa IntKind.i64 6)) 280)) w.heap.size Bd.b0):=hJ (by
  have h:=((Se Z).Au 0 1 bG).xG 0 6 bG;refine(U0 h).same ?_;rw[Z2];exact(cT (cT Z 0 _) 1 _).symm)
 go_in
 go_wp2
 go_ret
 exact⟨rfl,FIN.v,(aQ _ _).alloc (aL _) _,by simp⟩
theorem sN(z:Int)(w:bD):Calls prog 320 #[aa bf z] w λe w'=>e=bw (bS (Bd.Dg z))/\w'=w:=by
 by_cases k:z<0\/6<z
 .have e:Hid (Bd.Dg z=1):=hJ (aJ k);by_cases h0:z<0
  .clear k;go_in
   go_wp2
   go_ret
   rw[e.v];exact⟨rfl,rfl⟩
  .have h1:decide (z<0)=bF:=by simp;omega
   have h2:6<z:=bG
   go_in
   go_wp2
   go_ret
   rw[e.v];exact⟨rfl,rfl⟩
 .have e:Hid (Bd.Dg z=0):=hJ (aI k);have h1:decide (z<0)=bF:=by simp;omega
  have h2:decide (6<z)=bF:=by simp;omega
  go_in
  go_wp2
  go_ret
  rw[e.v];exact⟨rfl,rfl⟩
theorem TU(k:Nat)(hk:k<=6):wrap64 ((2:Int)^k)=((Bd.sz (k+1):Nat):Int):=by
 have:∀k:Fin 7,wrap64 ((2:Int)^k.1)=((Bd.sz (k.1+1):Nat):Int):=by decide+kernel
 exact this ⟨k,bG⟩
theorem MI(i k:Nat)(hi:i<64)(hk:k<=6):bits BinOp.xor bf (i:Int) ((Bd.sz (k+1):Nat):Int)=((Bd.dm i (Bd.sz (k+1)):Nat):Int):=by
 have:=Qi ⟨i,hi⟩ ⟨k,bG⟩;unfold Bd.sz;rw[aP];exact this
theorem JS(k:Nat)(hk:k<=6)(w:bD):Calls prog 229 #[aa bf k] w λe w'=>e=bw (aa bf (Bd.sz (k+1):Int))/\w'=w:=by
 have E:=hJ (TU k hk);go_in
 go_wp2
 go_ret
 rw[E.v];exact⟨rfl,rfl⟩
theorem uC(i k:Nat)(hi:i<64)(hk:k<=6)(w:bD):Calls prog 317 #[aa bf i,aa bf k] w λe w'=>e=bw (aa bf (Bd.dm i (Bd.sz (k+1)):Int))/\w'=w:=by
 have E:=hJ (MI i k hi hk);go_in
 go_wp2_with fail
 refine(JS k hk _).mono ?_;rintro e w1 ⟨rfl,hw⟩;subst w1;go_wp2
 go_ret
 rw[E.v];exact⟨rfl,rfl⟩
def Bd.xB(p:P)(z:Int):Nat:=if Bd.iC p z=0 then Bd.od p z.toNat else 0
theorem yF(b:Nat)(z:Int)(p:P)(w:bD)(h:eE w b p)(hI:Bd.Inv p):Calls prog 290 #[ai (bB ⟨b,0,bC⟩),aa bf z] w λe w'=>e=bw (ao #[aa bf (Bd.xB p z:Int),bS (Bd.iC p z)])/\w'=w:=by
 by_cases k:z<0\/63<z
 .have e:Hid (Bd.iC p z=1/\Bd.xB p z=0):=hJ (by
   have:Bd.iC p z=1:=aJ k;exact⟨this,by unfold Bd.xB;rw[this];rfl⟩)
  by_cases h0:z<0
  .clear k;go_in
   go_wp2
   go_ret2
   rw[e.1,e.2];exact⟨rfl,rfl⟩
  .have h1:decide (z<0)=bF:=by simp;omega
   have h2:64<=z:=bG
   go_in
   go_wp2
   go_ret2
   rw[e.1,e.2];exact⟨rfl,rfl⟩
 .obtain⟨n,rfl⟩:=aG (show 0<=z by omega);have hn:n<64:=bG
  have h1:(n:Int)<64:=bG
  have h2:decide (64<=(n:Int))=bF:=by simp;omega
  have c0:=h.uB n hn;have c1:=h.wK n hn;cases hh:p.tk n
  .have e:Hid (Bd.iC p n=2/\Bd.xB p n=0):=hJ (by
    have:Bd.iC p n=2:=by unfold Bd.iC;rw[aI k,hZ,hh];rfl
    exact⟨this,by unfold Bd.xB;rw[this];rfl⟩)
   have s2:((Bd.st p n:Int)==2)=bF:=by
    have:Bd.st p n≠2:=λc=>by rw[(Bd.Lx hI hn).1 c]at hh;cases hh
    simp;omega
   generalize Bd.st p n=s at*;go_in
   go_wp2
   go_ret2
   rw[e.1,e.2];exact⟨rfl,rfl⟩
  .have e:Hid (Bd.iC p n=0/\Bd.xB p n=Bd.od p n):=hJ (by
    have:Bd.iC p n=0:=by unfold Bd.iC;rw[aI k,hZ,hh];rfl
    exact⟨this,by unfold Bd.xB;rw[this,aJ rfl,hZ]⟩)
   rw[(Bd.Lx hI hn).2 hh]at c0;have c0':w.cell? ⟨b,n*2,bC⟩=bB (aa .i64 2):=c0;go_in
   go_wp2
   go_ret2
   rw[e.1,e.2];exact⟨rfl,rfl⟩
theorem QM{p:P}(hI:Bd.Inv p)(hx:x<64)(ho:p.ord x=k+2)(ht:p.tk x=bF)(h:CA w b (Bd.up (Bd.st p) (x+Bd.sz (k+1)) 1) (Bd.up (Bd.up (Bd.od p) x k) (x+Bd.sz (k+1)) k)):eE w b (Bd.half p x):=by
 have al:=hI.al x hx bG;rw[ho]at al;have sp:=Bd.sJ (k+1);have ss:=Bd.oM (k:=k+1) bG;have o0:=hI.own x (x+Bd.sz (k+1)) hx bG bG (by rw[ho,show k+2=k+1+1 from rfl,ss];omega);have t0:p.tk (x+Bd.sz (k+1))=bF:=by
  cases c:p.tk (x+Bd.sz (k+1))
  .rfl
  .have:=hI.tk _ (by rw[show k+2=k+1+1 from rfl,ss]at al;omega) c;omega
 obtain⟨s,hs⟩:=hU (Bd.sz (k+1));rw[hs]at h sp o0 t0;have eo:∀i,(Bd.half p x).ord i=if i=x+s then k+1 else if i=x then k+1 else p.ord i:=λi=>by
  unfold Bd.half Bd.up;rw[ho,show k+2-1=k+1 from rfl,hs]
 have et:∀i,(Bd.half p x).tk i=p.tk i:=λi=>rfl;refine CA.congr h (λi _=>?_);unfold Bd.st Bd.od Bd.up;rw[eo,et];by_cases c1:i=x+s
 .subst c1;rw[aJ rfl,aJ rfl,aJ rfl,nJ,t0,aI bM];exact⟨rfl,rfl⟩
 .rw[aI c1,aI c1,aI c1];by_cases c2:i=x
  .subst c2;rw[aJ rfl,aJ rfl,nJ,ht,aI bM];refine⟨?_,rfl⟩;show 1=if p.ord i=0 then 0 else if p.tk i=bE then 2 else 1;rw[ho,ht];rfl
  .rw[aI c2,aI c2];exact⟨rfl,rfl⟩
theorem JR(b x k:Nat)(p:P)(w:bD)(h:eE w b p)(hI:Bd.Inv p)(hx:x<64)(ho:p.ord x=k+2)(ht:p.tk x=bF):
  Calls prog 322 #[ai (bB ⟨b,0,bC⟩),aa bf x] w λe w'=>e=bw (ao #[])/\eE w' b (Bd.half p x)/\bO b w w':=by
 have al:=hI.al x hx bG;rw[ho]at al;have k5:k<=5:=by have:=hI.le x hx;omega
 have hb:=(Bd.zO (i:=x) (k:=k+1) bG bG rfl al.1).2.2.2;have y64:x+Bd.sz (k+1)<64:=by
  have ss:=Bd.oM (k:=k+1) bG;have sp:=Bd.sJ (k+1);rw[show k+2=k+1+1 from rfl,ss]at al;omega
 have c1:=h.wK x hx;have eo:Bd.od p x=k+1:=by unfold Bd.od;rw[ho];rfl
 rw[eo]at c1;have cf:=h.frozen;have xI:(x:Int)<64:=bG
 have FIN:Hid (∀W,CA W b (Bd.up (Bd.st p) (x+Bd.sz (k+1)) 1) (Bd.up (Bd.up (Bd.od p) x k) (x+Bd.sz (k+1)) k)->eE W b (Bd.half p x)):=hJ (λW hW=>QM hI hx ho ht hW);have HF:=hJ h;have HH:=hJ (uC x k hx bG);rw[hb]at HH;obtain⟨y,hy⟩:=hU (x+Bd.sz (k+1));rw[hy]at HH FIN y64;have yI:(y:Int)<64:=bG
 have hw1:IntKind.i64.wrap (((k+1:Nat):Int)-1)=(k:Int):=by rw[show((k+1:Nat):Int)-1=(k:Int)by omega];exact aN _ ⟨by omega,bG⟩
 go_in
 go_wp2_with fail
 refine cR (λW=>CA W b (Bd.st p) (Bd.up (Bd.od p) x k)/\bO b w W) ⟨CA.xG HF.v x k hx,(bO.refl b w).setCell _ _⟩ ?_;rintro W1 ⟨h1,f1⟩;have S1:=hJ (aK h1 f1);have d0:=h1.c0 y y64;have d1:=h1.c1 y y64;have df:=h1.frozen;go_region_with ((go_at_call 317;refine sC (HH.v _) ?_;rintro w2 hw2;subst w2))
 go_end0
 exact⟨rfl,FIN.v _ ((S1.1.Au y 1 y64).xG y k y64).drew,((S1.2.setCell _ _).setCell _ _).drew⟩
theorem J2{q:P}(h0:0<q.ord i):Bd.ga q i=(decide (Bd.od q i<6)&&(decide (Bd.st q (Bd.dm i (Bd.sz (Bd.od q i+1)))=1)&&decide (Bd.od q (Bd.dm i (Bd.sz (Bd.od q i+1)))=Bd.od q i))):=by
 have e:Bd.od q i+1=q.ord i:=by unfold Bd.od;omega
 rw[e];unfold Bd.ga;obtain⟨f,hf⟩:=hU (Bd.dm i (Bd.sz (q.ord i)));rw[hf];apply Bool.eq_iff_iff.2;simp only[Bool.and_eq_true,decide_eq_true_eq,Bool.not_eq_true',Bd.Lw];have e2:Bd.od q f=q.ord f-1:=rfl;constructor
 .rintro⟨a,b,c⟩;exact⟨by omega,⟨by omega,c⟩,bG⟩
 .rintro⟨a,⟨b,c⟩,d⟩;exact⟨by omega,bG,c⟩
theorem yE(b i:Nat)(q:P)(w:bD)(h:eE w b q)(hI:Bd.Inv q)(hi:i<64)(h0:0<q.ord i):
  Calls prog 291 #[ai (bB ⟨b,0,bC⟩),aa bf i] w λe w'=>e=bw (.bool (Bd.ga q i))/\∃n,w'=w.drewN n:=by
 have c1:=h.wK i hi;have iI:(i:Int)<64:=bG
 have FI:=hJ (J2 h0);have al:=(hI.al i hi h0).1;have e:Bd.od q i+1=q.ord i:=by unfold Bd.od;omega
 rw[<-e]at al;obtain⟨k,hk⟩:=hU (Bd.od q i);rw[hk]at c1 FI al e;have k6:k<=6:=by have:=hI.le i hi;omega
 by_cases hlt:k<6
 .have hltI:(k:Int)<6:=bG
  have BL:=(Bd.JE (i:=i) (k:=k+1) bG bG hi al).1;have HH:=hJ (uC i k hi k6);obtain⟨f,hf⟩:=hU (Bd.dm i (Bd.sz (k+1)));rw[hf]at HH FI BL;rw[aO hlt,Bool.true_and]at FI;have fI:(f:Int)<64:=bG
  have d0:=h.uB f BL;have d1:=h.wK f BL;obtain⟨s,hs⟩:=hU (Bd.st q f);obtain⟨o,ho⟩:=hU (Bd.od q f);rw[hs]at d0 FI;rw[ho]at d1 FI;by_cases e1:s=1
  .by_cases e2:o=k
   .have FR:Hid (Bd.ga q i=bE):=hJ (by rw[FI.v,aO e1,aO e2];rfl);subst e1 e2;go_in
    go_wp2_with fail
    go_quiet ((go_at_call 317;refine Calls.quiet_of_same (HH.v _)))
    go_wp2
    go_ret
    rw[FR.v];exact⟨rfl,_,rfl⟩
   .have FR:Hid (Bd.ga q i=bF):=hJ (by rw[FI.v,aT e2];simp);have e2':((o:Int)==(k:Int))=bF:=by simp;omega
    subst e1;go_in
    go_wp2_with fail
    go_quiet ((go_at_call 317;refine Calls.quiet_of_same (HH.v _)))
    go_wp2
    go_ret
    rw[FR.v];exact⟨rfl,_,rfl⟩
  .have FR:Hid (Bd.ga q i=bF):=hJ (by rw[FI.v,aT e1];rfl);have e1':((s:Int)==1)=bF:=by simp;omega
   go_in
   go_wp2_with fail
   go_quiet ((go_at_call 317;refine Calls.quiet_of_same (HH.v _)))
   go_wp2
   go_ret
   rw[FR.v];exact⟨rfl,_,rfl⟩
 .have hltI:decide ((k:Int)<6)=bF:=by simp;omega
  have FR:Hid (Bd.ga q i=bF):=hJ (by rw[FI.v,aT hlt];rfl);go_in
  go_wp2_with fail
  go_quiet (fail)
  go_wp2
  go_ret
  rw[FR.v];exact⟨rfl,_,rfl⟩
theorem Gs{q:P}{lo hh:Nat}(hl0:0<q.ord lo)(hlt:q.tk lo=bF)(hne:lo≠hh)(h:CA w b (Bd.up (Bd.st q) hh 0) (Bd.up (Bd.up (Bd.od q) lo (Bd.od q lo+1)) hh 0)):eE w b (Bd.join q lo hh):=by
 have eo:∀x,(Bd.join q lo hh).ord x=if x=lo then q.ord lo+1 else if x=hh then 0 else q.ord x:=λx=>rfl;have et:∀x,(Bd.join q lo hh).tk x=q.tk x:=λx=>rfl;refine CA.congr h (λi _=>?_);unfold Bd.st Bd.od Bd.up;rw[eo,et];by_cases c1:i=lo
 .subst c1;rw[aJ rfl,aI hne,aI hne,aJ rfl,nJ];refine⟨?_,by show q.ord i+1-1=q.ord i-1+1;omega⟩;show _=if q.ord i=0 then 0 else if q.tk i=bE then 2 else 1;rw[hlt,aI (show¬q.ord i=0 by omega)]
 .rw[aI c1];by_cases c2:i=hh
  .subst c2;rw[aJ rfl,aJ rfl,aJ rfl,aJ rfl];exact⟨rfl,rfl⟩
  .rw[aI c2,aI c2,aI c2,aI c1];exact⟨rfl,rfl⟩
theorem JN(b i:Nat)(q:P)(w:bD)(h:eE w b q)(hI:Bd.Inv q)(hi:i<64)(h0:0<q.ord i)(ht:q.tk i=bF)(hf2:Bd.ga q i=bE):
  Calls prog 292 #[ai (bB ⟨b,0,bC⟩),aa bf i] w λe w'=>e=bw (aa bf ((min i (Bd.dm i (Bd.sz (q.ord i))):Nat):Int))/\eE w' b (Bd.join q (min i (Bd.dm i (Bd.sz (q.ord i)))) (max i (Bd.dm i (Bd.sz (q.ord i)))))/\bO b w w':=by
 have c1:=h.wK i hi;have iI:(i:Int)<64:=bG
 have al:=(hI.al i hi h0).1;have e:Bd.od q i+1=q.ord i:=by unfold Bd.od;omega
 unfold Bd.ga at hf2;simp only[Bool.and_eq_true,decide_eq_true_eq,Bool.not_eq_true']at hf2;obtain⟨f1,f2,f3⟩:=hf2;obtain⟨k,hk⟩:=hU (Bd.od q i);rw[hk]at c1 e;have HH:=hJ (uC i k hi bG);have BL:=(Bd.JE (i:=i) (k:=k+1) bG bG hi (by rw[e];exact al)).1;have BB:=(Bd.vT (i:=i) (k:=k+1) bG bG (by rw[e];exact al)).2.2;rw[<-e]at f2 f3|-;obtain⟨f,hf⟩:=hU (Bd.dm i (Bd.sz (k+1)));rw[hf]at HH BL BB f2 f3|-;have fI:(f:Int)<64:=bG
 have HF:=hJ h;have cf:=h.frozen;have hw1:IntKind.i64.wrap ((k:Int)+1)=(k:Int)+1:=aN _ ⟨by omega,bG⟩;have of:Bd.od q f=k:=by unfold Bd.od;omega
 have d0:=h.uB i hi;have d1:=h.uB f BL;have d2:=h.wK f BL;have Of:=of;have Oi:=hk;generalize Bd.st q i=s0 at d0;generalize Bd.st q f=s1 at d1;rw[of]at d2;by_cases c:f<i
 .have mm:min i f=f/\max i f=i:=⟨by omega,bG⟩;rw[mm.1,mm.2];have FIN:Hid (∀W,CA W b (Bd.up (Bd.st q) i 0) (Bd.up (Bd.up (Bd.od q) f (k+1)) i 0)->eE W b (Bd.join q f i)):=hJ (λW hW=>Gs bG (by assumption) bG (by rw[Of];exact hW));have cI:(f:Int)<(i:Int):=bG
  have cI':¬(i:Int)<(f:Int):=bG
  go_in
  go_wp2_with fail
  refine sC (HH.v _) ?_;rintro w2 hw2;subst w2;go_wp2
  go_ret
  exact⟨rfl,FIN.v _ (((CA.xG HF.v f (k+1) bG).Au i 0 bG).xG i 0 bG),(((bO.refl b w).setCell _ _).setCell _ _).setCell _ _⟩
 .have mm:min i f=i/\max i f=f:=⟨by omega,bG⟩;rw[mm.1,mm.2];have FIN:Hid (∀W,CA W b (Bd.up (Bd.st q) f 0) (Bd.up (Bd.up (Bd.od q) i (k+1)) f 0)->eE W b (Bd.join q i f)):=hJ (λW hW=>Gs bG (by assumption) bG (by rw[Oi];exact hW));have cI:(i:Int)<(f:Int):=bG
  have cI':¬(f:Int)<(i:Int):=bG
  go_in
  go_wp2_with fail
  refine sC (HH.v _) ?_;rintro w2 hw2;subst w2;go_wp2
  go_ret
  exact⟨rfl,FIN.v _ (((CA.xG HF.v i (k+1) bG).Au f 0 bG).xG f 0 bG),(((bO.refl b w).setCell _ _).setCell _ _).setCell _ _⟩
def oK(s d:Nat->Nat):List Value:=(List.range 128).map λo=>if o%2=0 then aa bf (s (o/2):Int)else aa bf (d (o/2):Int)
theorem D0(s d:Nat->Nat):(oK s d).length=128:=by simp[oK]
theorem CA.range{s d:Nat->Nat}(h:CA w b s d):w.rangeAt b 0 (oK s d):=λj v hv=>by
 have hj:j<128:=by have:=(aY.1 hv).1;rwa [D0]at this
 simp[oK,hj]at hv;rw[Nat.zero_add,<-hv];by_cases c:j%2=0
 .rw[aJ c];have:=h.c0 (j/2) bG;rw[show j/2*2=j by omega]at this;exact this
 .rw[aI c];have:=h.c1 (j/2) bG;rw[show j/2*2+1=j by omega]at this;exact this
theorem Rn(s d:Nat->Nat)(x:Nat)(h:x<64):(oK s d).toArray.extract (x*2) (x*2+2)=#[aa bf (s x:Int),aa bf (d x:Int)]:=by
 have hs:(oK s d).toArray.size=128:=by simp[oK]
 apply bL;intro i;rw[Array.getElem?_extract];by_cases hi:i<2
 .rw[aJ (by rw[hs];omega)];have e:(oK s d).toArray[x*2+i]? =bB (if(x*2+i)%2=0 then aa bf (s ((x*2+i)/2):Int)else aa bf (d ((x*2+i)/2):Int)):=by
   simp[oK,show x*2+i<128 by omega]
  rw[e,show(x*2+i)/2=x by omega]
  match i,hi with
  |0,_=>rw[nK];rfl
  |1,_=>rw[nJ];rfl
 .rw[aI (by rw[hs];omega),aR (by simp;omega)]
theorem Ih(s d:Nat->Nat)(x:Nat)(h:x<64)(w:bD):Sem.run prog (Instr.index 278 (Value.agg (oK s d).toArray) (aa bf x)) w= .ok (.agg #[aa bf (s x:Int),aa bf (d x:Int)]) w:=by
 have hu:prog.underlying 278=bB (.array 64 277):=by kernel_rfl
 have hx:=Rn s d x h;have h1:(x:Int)<64:=bG
 obtain⟨A,hA⟩:=hU ((oK s d).toArray);rw[hA]at hx|-;simp[Instr.index,Sem.run_bind,run_underlying hu,go_sem,hx];intro c;omega
theorem Lq(s d:Nat->Nat):(prog.info? 278).map (·.size)=bB (oK s d).length:=by rw[D0];kernel_rfl
def Cr(p:P)(o r:Nat)(is:Bool):Prop:=(is=bF/\r=0/\∀j,j<64->o<p.ord j->p.tk j=bE)\/(is=bE/\Bd.G9 p o r)
def Js(p:P)(o k:Nat):Prop:=∀j,j<64->o<p.ord j->p.tk j=bF->k<p.ord j
theorem Hu(b o:Nat)(p:P)(w:bD)(h:eE w b p)(hI:Bd.Inv p)(ho:o<=6):
  Calls prog 321 #[ai (bB ⟨b,0,bC⟩),aa bf o] w λe w'=>∃r is,e=bw (ao #[aa bf ((r:Nat):Int), .bool is])/\Cr p o r is/\Below w.heap.size w w':=by
 have HF:=hJ h;have HI:=hJ hI;have hsz:=hJ (Lq (Bd.st p) (Bd.od p));clear h hI;go_in
 go_wp2
 go_loopw [6] (λs wr=>∃k:Nat,s=aa bf k/\o<=k/\k<=7/\Hid (Below w.heap.size w wr/\Js p o k)) (λs _=>7-(intOf s).toNat)
 case atStart=>exact⟨o,rfl,bG,bG,aQ _ _,λj _ h1 _=>h1⟩
 case round=>
  obtain⟨k,rfl,hok,hk7,S⟩:=hrel;by_cases hk:k<=6
  .have hkI:(k:Int)<=6:=bG
   have HR:=hJ (CA.range (eE.below HF.v S.1));go_wp2_with (refine wpList_load_mid rfl 278 _ rfl b 0 rfl (oK (Bd.st p) (Bd.od p)) (.array 64 277) HR.v bH rfl hsz.v ?_)
   clear HR;go_loopw [18] (λs wr=>∃x:Nat,s=aa bf x/\x<=64/\Hid (Below w.heap.size w wr/\∀j,j<x->¬(Bd.st p j=1/\Bd.od p j=k))) (λs _=>64-(intOf s).toNat)
   case atStart=>exact⟨0,rfl,bG,S.1,λj hj=>bG⟩
   case round=>
    obtain⟨x,rfl,hx64,T⟩:=hrel;by_cases hx:x<64
    .have hxI:(x:Int)<64:=bG
     have hix:=Ih (Bd.st p) (Bd.od p) x hx;have BL:Hid (∀o,Below w.heap.size w (wr.alloc o)):=hJ (λo=>T.1.alloc T.1.size o);have NX:Hid (¬(Bd.st p x=1/\Bd.od p x=k)->∀j,j<x+1->¬(Bd.st p j=1/\Bd.od p j=k)):=hJ (λc j hj=>by
      by_cases e:j=x
      .rw[e];exact c
      .exact T.2 j bG)
     have FD:Hid (Bd.st p x=1->Bd.od p x=k->Cr p o x bE):=hJ (λc1 c2=>by
      have a:=Bd.Lw.1 c1;have e:Bd.od p x=p.ord x-1:=rfl;refine .inr ⟨rfl,hx,bG,a.2,λj hj h1 h2=>?_⟩;have nt:=S.2 j hj h1 h2;by_cases c:p.ord x<p.ord j
      .exact .inl c
      .refine .inr ⟨by omega,Nat.le_of_not_lt λc3=>?_⟩;exact T.2 j c3 ⟨Bd.Aw bG h2,by show p.ord j-1=k;omega⟩)
     generalize Bd.st p x=sx at*;generalize Bd.od p x=dx at*;by_cases e1:sx=1
     .by_cases e2:dx=k
      .have F:=hJ (FD.v e1 e2);subst e1 e2;clear FD NX;go_wp2
       go_ret2
       exact⟨x,bE,rfl,F.v,BL.v _⟩
      .have N:=hJ (NX.v (λc=>e2 c.2));have e2':((dx:Int)==(k:Int))=bF:=by simp;omega
       subst e1;clear FD NX e2;go_wp2
       go_roundw
       case rel=>exact⟨x+1,by go_num,bG,BL.v _,N.v⟩
       case measure=>simp[intOf];omega
     .have N:=hJ (NX.v (λc=>e1 c.1));have e1':((sx:Int)==1)=bF:=by simp;omega
      clear FD NX e1;go_wp2
      go_roundw
      case rel=>exact⟨x+1,by go_num,bG,BL.v _,N.v⟩
      case measure=>simp[intOf];omega
    .have NN:Hid (Js p o (k+1)):=hJ (λj hj h1 h2=>by
      have:=S.2 j hj h1 h2;by_cases c:p.ord j=k+1
      .exact aZ ⟨Bd.Aw bG h2,by show p.ord j-1=k;omega⟩ (T.2 j bG)
      .omega)
     have hx':x=64:=bG
     subst hx';go_wp2
     go_roundw
     case rel=>exact⟨k+1,by go_num,bG,bG,T.1,NN.v⟩
     case measure=>simp[intOf];omega
  .have hk':k=7:=bG
   subst hk';have FIN:Hid (Cr p o 0 bF):=hJ (.inl ⟨rfl,rfl,λj hj h1=>by
    cases t:p.tk j
    .have:=S.2 j hj h1 t;have:=HI.le j hj;omega
    .rfl⟩)
   go_wp2
   go_ret2
   exact⟨0,bF,rfl,FIN.v,S.1⟩
theorem OR{p:P}(ho:0<(Bd.parts p x (p.ord x-(o+1))).ord x)(h:eE w b (Bd.parts p x (p.ord x-(o+1))))(hx:x<64):eE (w.setCell ⟨b,x*2,bC⟩ (aa .i64 2)) b (Bd.lY p o x):=by
 refine CA.congr (CA.Au h x 2 hx) (λi _=>?_);unfold Bd.lY Bd.st Bd.od Bd.up Bd.ob;by_cases c:i=x
 .subst c;show(if(Bd.parts p i (p.ord i-(o+1))).ord i=0 then 0 else if(if i=i then bE else _)=bE then 2 else 1)=(if i=i then 2 else _)/\_;rw[nJ,aJ rfl,aJ rfl,aJ rfl];exact⟨rfl,rfl⟩
 .show(if(Bd.parts p x (p.ord x-(o+1))).ord i=0 then 0 else if(if i=x then bE else(Bd.parts p x (p.ord x-(o+1))).tk i)=bE then 2 else 1)=(if i=x then 2 else _)/\_;rw[aI c,aI c];exact⟨rfl,rfl⟩
theorem Hw(b o:Nat)(p:P)(w:bD)(h:eE w b p)(hI:Bd.Inv p)(hN:Bd.NB p 64)(ho:o<=6):
  Calls prog 296 #[ai (bB ⟨b,0,bC⟩),aa bf o] w λe w'=>∃(r:Nat) (E:Int) (p':P),e=bw (ao #[aa bf r,bS E])/\Bd.qg p o E r p'/\eE w' b p'/\bO b w w':=by
 have HF:=hJ h;have HI:=hJ hI;have NI:=hJ hN;have HE:Hid (Bd.Dg (o:Int)=0):=hJ (nJ);go_in
 go_wp2_with fail
 refine sC (sN o _) ?_;rintro w1 hw;subst w1;rw[HE.v,bN];go_wp2_with fail
 refine(Hu b o p _ HF.v HI.v ho).mono ?_;rintro e w1 ⟨x,is,rfl,hL,hB⟩;have S1:Hid (eE w1 b p/\bO b w w1):=hJ ⟨HF.below hB,bO.cO hB⟩;rcases hL with⟨rfl,rfl,hno⟩|⟨rfl,hB⟩
 .have FIN:Hid (Bd.qg p o 4 0 p):=hJ (.inr (.inl ⟨by omega,by rw[hZ];exact hno,rfl,rfl,rfl⟩));go_wp2
  go_ret2
  exact⟨0,4,p,rfl,FIN.v,S1.1,S1.2⟩
 .have HB:=hJ hB;have hx64:=hB.lt;have hxI:(x:Int)<64:=bG
  have S2:Hid (eE w1 b (Bd.parts p x 0)/\bO b w w1/\o+1+0<=p.ord x):=hJ ⟨S1.1,S1.2,by have:=hB.ord;omega⟩;go_wp2_with fail
  go_loopw [31] (λ_ wr=>∃n:Nat,Hid (eE wr b (Bd.parts p x n)/\bO b w wr/\o+1+n<=p.ord x)) (λ_ wr=>pZ wr b (x*2+1))
  case atStart=>exact⟨0,S2⟩
  case round=>
   obtain⟨n,S⟩:=hrel;have PI:=hJ (Bd.Br hx64 n (by have:=S.2.2;have:=HB.ord;omega) HI.v HB.tk ((NI.v).but HI.v x));have hw7:=HI.le x hx64;obtain⟨q,hq⟩:=hU (Bd.parts p x n);have HQ:=hJ hq;have c1:=S.1.wK x hx64;have T:=hJ S.1;rw[hq]at c1 T PI;obtain⟨u,hu⟩:=hU (Bd.od q x);rw[hu]at c1;have eu:u+1+n=p.ord x:=by have:=PI.2.2.1;have:=S.2.2;have:Bd.od q x=q.ord x-1:=rfl;omega
   have uo:q.ord x=u+1:=by have:=PI.2.2.1;omega
   have UO:=hJ uo;have CC:=hJ c1;have HT:Hid (q.tk x=bF):=hJ (by rw[PI.2.2.2];exact HB.tk);by_cases hgt:o<u
   .obtain⟨k,rfl⟩:∃k,u=k+1:=⟨u-1,bG⟩;have hgtI:(o:Int)<((k+1:Nat):Int):=bG
    go_wp2_with fail
    refine sC (JR b x k q _ T.v PI.1 hx64 UO.v HT.v) ?_;rintro w2 ⟨t2,f2⟩;have T2:Hid (eE w2 b (Bd.parts p x (n+1))/\bO b w w2/\o+1+(n+1)<=p.ord x):=hJ ⟨by rw[IY,HQ.v];exact t2,S.2.1.trans f2,bG⟩;have CN:Hid (pZ w2 b (x*2+1)=k):=hJ (ta (by
     rw[t2.wK x hx64];have:=(PI.1.half hx64 (by rw[UO.v];omega) HT.v).2.1;unfold Bd.od;rw[this,UO.v];rfl))
    go_wp2
    go_roundw
    case rel=>exact⟨n+1,T2⟩
    case measure=>
     rw[CN.v,ta CC.v];omega
   .have hgtI:decide ((o:Int)<(u:Int))=bF:=by simp;omega
    have EN:Hid (n=p.ord x-(o+1)):=hJ (by have:=S.2.2;omega);have c3:=T.uB x hx64;have cf:=T.frozen;have T3:Hid (eE (wr.setCell ⟨b,x*2,bC⟩ (aa .i64 2)) b (Bd.lY p o x)/\bO b w (wr.setCell ⟨b,x*2,bC⟩ (aa .i64 2))):=hJ (by
     refine⟨OR ?_ ?_ hx64,S.2.1.setCell _ _⟩
     .rw[<-EN.v,HQ.v,UO.v];omega
     .rw[<-EN.v];exact S.1)
    go_wp2
    go_ret2
    exact⟨x,0,_,rfl, .inr (.inr ⟨by omega,by rw[hZ];exact HB.v,rfl,by rw[hZ]⟩),T3.1,T3.2⟩
theorem E9(b:Nat)(z:Int)(w:bD)(k:z<0\/6<z):
  Calls prog 296 #[ai (bB ⟨b,0,bC⟩),aa bf z] w λe w'=>e=bw (ao #[aa bf 0,bS 1])/\w'=w:=by
 have HE:Hid (Bd.Dg z=1):=hJ (aJ k);go_in
 go_wp2_with fail
 refine sC (sN z _) ?_;rintro w1 hw;subst w1;rw[HE.v,bP bM];go_wp2
 go_ret2
 exact⟨rfl,rfl⟩
theorem JT(b:Nat)(z:Int)(p:P)(w:bD)(h:eE w b p)(hI:Bd.Inv p)(hN:Bd.NB p 64):
  Calls prog 296 #[ai (bB ⟨b,0,bC⟩),aa bf z] w λe w'=>∃(r:Nat) (E:Int) (p':P),e=bw (ao #[aa bf r,bS E])/\Bd.qg p z E r p'/\eE w' b p'/\bO b w w':=by
 by_cases k:z<0\/6<z
 .refine sC (E9 b z w k) ?_;rintro w' rfl;exact⟨0,1,p,rfl, .inl ⟨k,rfl,rfl,rfl⟩,h,bO.refl _ _⟩
 .obtain⟨o,rfl⟩:=aG (show 0<=z by omega);exact Hw b o p w h hI hN bG
theorem Ss{p:P}{j:Nat}(h0:0<p.ord j)(h:eE w b p)(hj:j<64):eE (w.setCell ⟨b,j*2,bC⟩ (aa .i64 1)) b {p with tk:=Bd.ob p.tk j bF}:=by
 refine CA.congr (CA.Au h j 1 hj) (λi _=>?_);unfold Bd.st Bd.od Bd.up Bd.ob;by_cases c:i=j
 .subst c;show(if p.ord i=0 then 0 else if(if i=i then bF else _)=bE then 2 else 1)=(if i=i then 1 else _)/\_;rw[nJ,aJ rfl,aJ rfl];exact⟨rfl,rfl⟩
 .show(if p.ord i=0 then 0 else if(if i=j then bF else p.tk i)=bE then 2 else 1)=(if i=j then 1 else _)/\_;rw[aI c,aI c];exact⟨rfl,rfl⟩
theorem E5(b:Nat)(z:Int)(p:P)(w:bD)(h:eE w b p)(hI:Bd.Inv p)(k:Bd.iC p z≠0):
  Calls prog 271 #[ai (bB ⟨b,0,bC⟩),aa bf z] w λe w'=>e=bw (bS (Bd.iC p z))/\w'=w:=by
 have HF:=hJ (aK h hI);obtain⟨E,hE⟩:=hU (Bd.iC p z);have HX:=hJ hE;rw[hE]at k;have HK:=hJ k;go_in
 go_wp2_with fail
 refine sC (yF b z p _ HF.1 HF.2) ?_;rintro w1 hw;subst w1;rw[HX.v,bP HK.v];go_wp2
 go_ret
 rw[HX.v,bP HK.v];exact⟨rfl,rfl⟩
theorem MK(b j:Nat)(p:P)(w:bD)(h:eE w b p)(hI:Bd.Inv p)(hj:j<64)(ht:p.tk j=bE):
  Calls prog 271 #[ai (bB ⟨b,0,bC⟩),aa bf j] w λe w'=>e=bw (bS 0)/\eE w' b (Bd.kJ p j)/\bO b w w':=by
 have HF:=hJ (aK h hI);have HK:Hid (Bd.iC p j=0):=hJ (by unfold Bd.iC;rw[nJ,hZ,aJ ht]);have c0:=h.uB j hj;have cf0:=h.frozen;have hjI:(j:Int)<64:=bG
 have S0:Hid (eE (w.setCell ⟨b,j*2,bC⟩ (aa .i64 1)) b {p with tk:=Bd.ob p.tk j bF}/\bO b w (w.setCell ⟨b,j*2,bC⟩ (aa .i64 1))/\Bd.yg {p with tk:=Bd.ob p.tk j bF} j 7 (Bd.kJ p j)):=hJ ⟨Ss (hI.tk j hj ht) h hj,(bO.refl b w).setCell _ _,Bd.yg.start hI hj ht⟩;clear h hI ht;go_in
 go_wp2_with fail
 refine sC (yF b j p _ HF.1 HF.2) ?_;rintro w1 hw;subst w1;rw[HK.v,bN];go_wp2_with fail
 refine cR (λW=>eE W b {p with tk:=Bd.ob p.tk j bF}/\bO b w W/\Bd.yg {p with tk:=Bd.ob p.tk j bF} j 7 (Bd.kJ p j)) S0.v ?_;intro W1 h1;have S1:=hJ h1;clear h1 S0 c0 cf0;go_loopw [1] (λs wr=>∃(i n:Nat) (q:P),s=aa bf i/\n<=7/\Hid (eE wr b q/\bO b w wr/\Bd.yg q i n (Bd.kJ p j))) (λs wr=>6-pZ wr b ((intOf s).toNat*2+1))
 case atStart=>exact⟨j,7,_,rfl,bG,S1⟩
 case round=>
  clear S1;obtain⟨i,n,q,rfl,hn7,S⟩:=hrel;have hi:=S.2.2.lt;have CC:=hJ (S.1.wK i hi);cases fr:Bd.ga q i
  .have FR:=hJ fr;have EQ:Hid (q=Bd.kJ p j):=hJ (by rw[<-S.2.2.eq,Bd.Nt fr]);clear fr;go_wp2_with fail
   refine sC (yE b i q _ S.1 S.2.2.inv hi S.2.2.pos) ?_;rintro w2 ⟨nq,hw2⟩;have T:Hid (eE w2 b q/\bO b w w2):=hJ (by rw[hw2];exact⟨S.1.drewN nq,S.2.1.drewN nq⟩);clear hw2;rw[FR.v];go_wp2
   go_ret
   exact⟨rfl,by rw[<-EQ.v];exact T.1,T.2⟩
  .have FR:=hJ fr;have lt7:q.ord i<7:=by
    unfold Bd.ga at fr;simp only[Bool.and_eq_true,decide_eq_true_eq]at fr;exact fr.1
   obtain⟨m,rfl⟩:∃m,n=m+1:=⟨n-1,by have:=S.2.2.fu;omega⟩;have GN:=hJ (S.2.2.next fr);have L7:=hJ lt7;have JO:=hJ (by
    have f:=fr;unfold Bd.ga at f;simp only[Bool.and_eq_true,decide_eq_true_eq,Bool.not_eq_true']at f;exact(S.2.2.inv.join hi S.2.2.pos f.1 S.2.2.tk f.2.1 f.2.2).2.2.1)
   clear fr lt7;go_wp2_with fail
   refine sC (yE b i q _ S.1 S.2.2.inv hi S.2.2.pos) ?_;rintro w2 ⟨nq,hw2⟩;have T:Hid (eE w2 b q/\bO b w w2):=hJ (by rw[hw2];exact⟨S.1.drewN nq,S.2.1.drewN nq⟩);clear hw2;rw[FR.v];go_wp2_with fail
   refine sC (JN b i q _ T.1 S.2.2.inv hi S.2.2.pos S.2.2.tk FR.v) ?_;rintro w3 ⟨t3,f3⟩;have T3:=hJ (aK t3 (T.2.trans f3));clear t3 f3;obtain⟨lo,hlo⟩:=hU (min i (Bd.dm i (Bd.sz (q.ord i))));rw[hlo];rw[hlo]at T3 GN JO;have CN:Hid (pZ w3 b (lo*2+1)=q.ord i):=hJ (ta (by
    rw[T3.1.wK lo GN.lt];unfold Bd.od;rw[JO.v];rfl))
   clear hlo;go_wp2
   go_roundw
   case rel=>exact⟨lo,m,_,by first|rfl|trivial,bG,T3.1,T3.2,GN.v⟩
   case measure=>
    simp only[intOf,hZ];rw[CN.v,ta CC.v];have:=L7.v;have:=S.2.2.pos;show _<6-(q.ord i-1);omega
theorem JH(b:Nat)(z:Int)(p:P)(w:bD)(h:eE w b p)(hI:Bd.Inv p):
  Calls prog 271 #[ai (bB ⟨b,0,bC⟩),aa bf z] w λe w'=>e=bw (bS (Bd.iC p z))/\eE w' b (Bd.lu p z)/\bO b w w':=by
 by_cases k:Bd.iC p z=0
 .have k':=k;unfold Bd.iC at k';by_cases c1:z<0\/63<z
  .rw[aJ c1]at k';omega
  .rw[aI c1]at k';obtain⟨j,rfl⟩:=aG (show 0<=z by omega);rw[hZ]at k';have ht:p.tk j=bE:=by
    cases t:p.tk j
    .rw[t,aI bM]at k';omega
    .rfl
   refine sC (MK b j p w h hI bG ht) ?_;rintro w' ⟨h1,h2⟩;unfold Bd.lu;rw[k,aJ rfl,hZ];exact⟨rfl,h1,h2⟩
 .refine sC (E5 b z p w h hI k) ?_;rintro w' rfl;unfold Bd.lu;rw[aI k];exact⟨rfl,h,bO.refl _ _⟩
