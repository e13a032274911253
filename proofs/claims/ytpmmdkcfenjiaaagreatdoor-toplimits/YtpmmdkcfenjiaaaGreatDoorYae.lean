import Derived.Test.YtpmmdkcfenjiaaaGreatDoorYab
set_option maxRecDepth 100000
set_option maxHeartbeats 2000000
set_option linter.unusedVariables false
set_option linter.unusedSimpArgs false
namespace Go.Proofs.YtpmmdkcfenjiaaaGreatDoor
open Value renaming int->aa,pointer->ai,tuple->ao
open IntKind renaming i64->az
open Ending renaming returned->bf
open Option renaming some->bj,none->bu
open Bool renaming true->bw,false->bA
open Tryz (prog)
variable {b i k n o x:Nat}{w:bD}
namespace Bd
structure P where
 ord:Nat->Nat
 tk:Nat->Bool
def sz(k:Nat):Nat:=2^(k-1)
theorem oN{M:Nat->Nat->Prop}(h1:M 1 1)(h2:M 2 2)(h3:M 3 4)(h4:M 4 8)(h5:M 5 16)(h6:M 6 32)(h7:M 7 64)(k:Nat)(a:1<=k)(b:k<=7):M k (sz k):=by
 match k,a,b with
 |1,_,_=>exact h1
 |2,_,_=>exact h2
 |3,_,_=>exact h3
 |4,_,_=>exact h4
 |5,_,_=>exact h5
 |6,_,_=>exact h6
 |7,_,_=>exact h7
theorem oO(h:1<=k):sz (k+1)=2*sz k:=by
 unfold sz;obtain⟨j,rfl⟩:∃j,k=j+1:=⟨k-1,bB⟩;rw[aP,aP,Nat.pow_succ];omega
theorem sL(k:Nat):0<sz k:=Nat.two_pow_pos _
def db(i s:Nat):Nat:=if i/s%2=1 then i-s else i+s
structure Inv (b:P):Prop where
 le:∀i,i<64->b.ord i<=7
 al:∀i,i<64->0<b.ord i->i%sz (b.ord i)=0/\i+sz (b.ord i)<=64
 own:∀i j,i<64->0<b.ord i->i<j->j<i+sz (b.ord i)->b.ord j=0
 De:∀j,j<64->∃i,i<=j/\0<b.ord i/\j<i+sz (b.ord i)
 tk:∀i,i<64->b.tk i=bw->0<b.ord i
def NB(b:P)(e:Nat):Prop:=∀i,i<64->0<b.ord i->b.ord i<7->b.tk i=bA->i≠e->db i (sz (b.ord i))≠e->¬(b.ord (db i (sz (b.ord i)))=b.ord i/\b.tk (db i (sz (b.ord i)))=bA)
def up(f:Nat->Nat)(i v:Nat):Nat->Nat:=λj=>if j=i then v else f j
def ov(f:Nat->Bool)(i:Nat)(v:Bool):Nat->Bool:=λj=>if j=i then v else f j
def half(b:P)(i:Nat):P:={b with ord:=up (up b.ord i (b.ord i-1)) (i+sz (b.ord i-1)) (b.ord i-1)}
def join(b:P)(lo hi:Nat):P:={b with ord:=up (up b.ord hi 0) lo (b.ord lo+1)}
section
variable {b:P}
theorem zV{s:Nat}(hk:1<=k)(hk6:k<=6)(hs:s=sz k)(h:i%sz (k+1)=0):i%s=0/\(i+s)%s=0/\db (i+s) s=i/\db i s=i+s:=by
 rw[oO hk,<-hs]at h;have:∀k,1<=k->k<=7->∀i,i%(2*sz k)=0->i%sz k=0/\(i+sz k)%sz k=0/\db (i+sz k) (sz k)=i/\db i (sz k)=i+sz k:=by
  refine oN (M:=λ_ s=>∀i,i%(2*s)=0->i%s=0/\(i+s)%s=0/\db (i+s) s=i/\db i s=i+s) ?_ ?_ ?_ ?_ ?_ ?_ ?_
  all_goals
   intro i hi;unfold db;refine⟨by omega,bB,?_,?_⟩
   .rw[nK];omega
   .rw[nJ]
 rw[hs]at h|-;exact this k hk bB i h
theorem vV(hk:1<=k)(hk6:k<=6)(h:i%sz k=0):db (db i (sz k)) (sz k)=i/\(db i (sz k))%sz k=0/\db i (sz k)≠i:=by
 have:∀k,1<=k->k<=7->∀i,i%sz k=0->db (db i (sz k)) (sz k)=i/\(db i (sz k))%sz k=0/\db i (sz k)≠i:=by
  refine oN (M:=λ_ s=>∀i,i%s=0->db (db i s) s=i/\(db i s)%s=0/\db i s≠i) ?_ ?_ ?_ ?_ ?_ ?_ ?_
  all_goals
   intro i hi;refine⟨?_,?_,?_⟩<;>(unfold db;repeat' split)<;>omega
 exact this k hk bB i h
theorem Ti(hk:1<=k)(hk6:k<=6)(h:i%sz k=0):(min i (db i (sz k)))%sz (k+1)=0/\max i (db i (sz k))=min i (db i (sz k))+sz k:=by
 rw[oO hk];have:∀k,1<=k->k<=7->∀i,i%sz k=0->(min i (db i (sz k)))%(2*sz k)=0/\max i (db i (sz k))=min i (db i (sz k))+sz k:=by
  refine oN (M:=λ_ s=>∀i,i%s=0->(min i (db i s))%(2*s)=0/\max i (db i s)=min i (db i s)+s) ?_ ?_ ?_ ?_ ?_ ?_ ?_
  all_goals
   intro i hi;refine⟨?_,?_⟩<;>(unfold db;split)<;>omega
 exact this k hk bB i h
theorem Inv.half(h:Inv b){i:Nat}(hi:i<64)(ho:2<=b.ord i)(ht:b.tk i=bA):Inv (half b i)/\(half b i).ord i=b.ord i-1/\(half b i).tk=b.tk:=by
 obtain⟨k,hk⟩:∃k,b.ord i=k+1:=⟨b.ord i-1,bB⟩;have hk1:1<=k:=bB
 have hle:=h.le i hi;have al:=h.al i hi bB;rw[hk]at al;have ah:=zV hk1 bB rfl al.1;have hs:=oO hk1;have sp:=sL k;obtain⟨s,es⟩:=hU (sz k);have own:=h.own i;rw[hk]at own;have eo:∀x,(Bd.half b i).ord x=if x=i+s then k else if x=i then k else b.ord x:=λx=>by
  unfold Bd.half up;rw[hk,aP,es]
 rw[es]at ah hs sp;have ei:(Bd.half b i).ord i=k:=by rw[eo,nJ,aJ rfl]
 have eu:(Bd.half b i).ord (i+s)=k:=by rw[eo,aJ rfl]
 have en:∀x,x≠i->x≠i+s->(Bd.half b i).ord x=b.ord x:=λx h1 h2=>by rw[eo,aI h2,aI h1]
 have ou:b.ord (i+s)=0:=own (i+s) hi bB bB bB;refine⟨⟨λx hx=>?_,λx hx h0=>?_,λx y hx h0 h1 h2=>?_,λy hy=>?_,λx hx h0=>?_⟩,by rw[ei,hk];rfl,rfl⟩
 .by_cases c1:x=i
  .rw[c1,ei];omega
  .by_cases c2:x=i+s
   .rw[c2,eu];omega
   .rw[en x c1 c2];exact h.le x hx
 .by_cases c1:x=i
  .rw[c1,ei,es];exact⟨ah.1,bB⟩
  .by_cases c2:x=i+s
   .rw[c2,eu,es];exact⟨ah.2.1,bB⟩
   .rw[en x c1 c2]at h0|-;exact h.al x hx h0
 .by_cases c1:x=i
  .rw[c1,ei,es]at h2;rw[en y bB bB];exact own y hi bB bB bB
  .by_cases c2:x=i+s
   .rw[c2,eu,es]at h2;rw[en y bB bB];exact own y hi bB bB bB
   .rw[en x c1 c2]at h0 h2;have hy:=h.own x y hx h0 h1 h2;by_cases c3:y=i
    .rw[c3,hk]at hy;omega
    .by_cases c4:y=i+s
     .exfalso;by_cases c5:x<i
      .have:=h.own x i hx h0 c5 bB;omega
      .have:=own x hi bB bB bB;omega
     .rw[en y c3 c4];exact hy
 .obtain⟨a,a1,a2,a3⟩:=h.De y hy;by_cases c1:a=i
  .rw[c1,hk]at a3;by_cases c:y<i+s
   .exact⟨i,bB,by rw[ei];omega,by rw[ei,es];exact c⟩
   .exact⟨i+s,bB,by rw[eu];omega,by rw[eu,es];omega⟩
  .have c2:a≠i+s:=λc=>by rw[c,ou]at a2;omega
   exact⟨a,a1,by rw[en a c1 c2];exact a2,by rw[en a c1 c2];exact a3⟩
 .have h0':b.tk x=bw:=h0;have:=h.tk x hx h0';by_cases c1:x=i
  .rw[c1,ht]at h0';cases h0'
  .by_cases c2:x=i+s
   .rw[c2,eu];omega
   .rw[en x c1 c2];exact this
theorem NB.half(h:Inv b){i:Nat}(hi:i<64)(ho:2<=b.ord i)(n:NB b i):NB (half b i) i:=by
 obtain⟨k,hk⟩:∃k,b.ord i=k+1:=⟨b.ord i-1,bB⟩;have hk1:1<=k:=bB
 have hle:=h.le i hi;have al:=h.al i hi bB;rw[hk]at al;have ah:=zV hk1 bB rfl al.1;have sp:=sL k;obtain⟨s,es⟩:=hU (sz k);rw[es]at ah sp;have eo:∀x,(Bd.half b i).ord x=if x=i+s then k else if x=i then k else b.ord x:=λx=>by
  unfold Bd.half up;rw[hk,aP,es]
 have eu:(Bd.half b i).ord (i+s)=k:=by rw[eo,aJ rfl]
 have en:∀x,x≠i->x≠i+s->(Bd.half b i).ord x=b.ord x:=λx h1 h2=>by rw[eo,aI h2,aI h1]
 intro x hx h0 h7 ht hxi hbi;by_cases c2:x=i+s
 .rw[c2,eu,es,ah.2.2.1]at hbi;exact aZ rfl hbi
 .rw[en x hxi c2]at h0 h7 hbi|-;by_cases c3:db x (sz (b.ord x))=i+s
  .rw[c3,eu];rintro⟨e1,_⟩;have bb:=vV (i:=x) (k:=b.ord x) bB bB (h.al x hx h0).1;rw[c3,<-e1,es,ah.2.2.1]at bb;exact hxi bb.1.symm
  .rw[en _ hbi c3];exact n x hx h0 h7 ht hxi hbi
theorem Inv.join(h:Inv b){at_:Nat}(hi:at_<64)(h0:0<b.ord at_)(h7:b.ord at_<7)(ht:b.tk at_=bA)(ho:b.ord (db at_ (sz (b.ord at_)))=b.ord at_)(ht2:b.tk (db at_ (sz (b.ord at_)))=bA):
  Inv (join b (min at_ (db at_ (sz (b.ord at_)))) (max at_ (db at_ (sz (b.ord at_)))))/\min at_ (db at_ (sz (b.ord at_)))<64/\(join b (min at_ (db at_ (sz (b.ord at_)))) (max at_ (db at_ (sz (b.ord at_))))).ord (min at_ (db at_ (sz (b.ord at_))))=b.ord at_+1/\b.tk (min at_ (db at_ (sz (b.ord at_))))=bA:=by
 obtain⟨k,hk⟩:=hU (b.ord at_);rw[hk]at h0 h7 ho ht2|-;have al:=h.al at_ hi bB;rw[hk]at al;have bl:=Ti h0 bB al.1;have hs:=oO h0;have sp:=sL k;obtain⟨hf,ehf⟩:=hU (db at_ (sz k));obtain⟨s,es⟩:=hU (sz k);rw[ehf]at ho ht2 bl|-;obtain⟨lo,elo⟩:=hU (min at_ hf);obtain⟨hh,ehh⟩:=hU (max at_ hf);rw[elo,ehh]at bl|-;rw[es]at bl hs sp;have lo64:lo<64:=bB
 have ol:b.ord lo=k/\b.tk lo=bA:=by
  by_cases c:lo=at_
  .rw[c];exact⟨hk,ht⟩
  .rw[show lo=hf by omega];exact⟨ho,ht2⟩
 have oh:b.ord hh=k/\b.tk hh=bA:=by
  by_cases c:hh=at_
  .rw[c];exact⟨hk,ht⟩
  .rw[show hh=hf by omega];exact⟨ho,ht2⟩
 have hh64:hh+s<=64:=by
  have a2:=al.2;rw[es]at a2;by_cases c:hh=at_
  .rw[c];exact a2
  .have:lo=at_:=bB
   rw[hs]at bl;have l64:lo%(2*s)=0:=bl.1;have key:∀k,1<=k->k<=7->k<=6->∀x,x<64->x%(2*sz k)=0->x+2*sz k<=64:=by
    refine oN (M:=λk s=>k<=6->∀x,x<64->x%(2*s)=0->x+2*s<=64) ?_ ?_ ?_ ?_ ?_ ?_ ?_
    all_goals
     intro hk x hx hm;omega
   have:=key k h0 bB bB lo lo64 (by rw[es];exact l64);rw[es]at this;omega
 have eo:∀x,(Bd.join b lo hh).ord x=if x=lo then k+1 else if x=hh then 0 else b.ord x:=λx=>by
  unfold Bd.join up;rw[ol.1]
 have el:(Bd.join b lo hh).ord lo=k+1:=by rw[eo,aJ rfl]
 have eh:(Bd.join b lo hh).ord hh=0:=by rw[eo,nJ,aJ rfl]
 have en:∀x,x≠lo->x≠hh->(Bd.join b lo hh).ord x=b.ord x:=λx h1 h2=>by rw[eo,aI h1,aI h2]
 refine⟨⟨λx hx=>?_,λx hx x0=>?_,λx y hx x0 h1 h2=>?_,λy hy=>?_,λx hx x0=>?_⟩,lo64,el,ol.2⟩
 .by_cases c1:x=lo
  .rw[c1,el];omega
  .by_cases c2:x=hh
   .rw[c2,eh];omega
   .rw[en x c1 c2];exact h.le x hx
 .by_cases c1:x=lo
  .rw[c1,el];exact⟨bl.1,by rw[hs];omega⟩
  .by_cases c2:x=hh
   .rw[c2,eh]at x0;omega
   .rw[en x c1 c2]at x0|-;exact h.al x hx x0
 .by_cases c1:x=lo
  .rw[c1,el,hs]at h2;by_cases c2:y=hh
   .rw[c2,eh]
   .rw[en y bB c2];by_cases c3:y<hh
    .exact h.own lo y lo64 bB bB (by rw[ol.1,es];omega)
    .exact h.own hh y bB bB bB (by rw[oh.1,es];omega)
  .by_cases c2:x=hh
   .rw[c2,eh]at x0;omega
   .rw[en x c1 c2]at x0 h2;have hy:=h.own x y hx x0 h1 h2;by_cases c3:y=lo
    .rw[c3,ol.1]at hy;omega
    .by_cases c4:y=hh
     .rw[c4,eh]
     .rw[en y c3 c4];exact hy
 .obtain⟨a,a1,a2,a3⟩:=h.De y hy;by_cases c1:a=lo
  .rw[c1,ol.1,es]at a3;exact⟨lo,bB,by rw[el];omega,by rw[el,hs];omega⟩
  .by_cases c2:a=hh
   .rw[c2,oh.1,es]at a3;exact⟨lo,bB,by rw[el];omega,by rw[el,hs];omega⟩
   .exact⟨a,a1,by rw[en a c1 c2];exact a2,by rw[en a c1 c2];exact a3⟩
 .have x0':b.tk x=bw:=x0;by_cases c1:x=lo
  .rw[c1,el];omega
  .by_cases c2:x=hh
   .rw[c2,oh.2]at x0';cases x0'
   .rw[en x c1 c2];exact h.tk x hx x0'
theorem NB.join(h:Inv b){at_:Nat}(hi:at_<64)(h0:0<b.ord at_)(h7:b.ord at_<7)(n:NB b at_):
  NB (join b (min at_ (db at_ (sz (b.ord at_)))) (max at_ (db at_ (sz (b.ord at_))))) (min at_ (db at_ (sz (b.ord at_)))):=by
 have bb:=vV (i:=at_) (k:=b.ord at_) h0 bB (h.al at_ hi h0).1;obtain⟨hf,ehf⟩:=hU (db at_ (sz (b.ord at_)));rw[ehf]at bb|-;obtain⟨lo,elo⟩:=hU (min at_ hf);obtain⟨hh,ehh⟩:=hU (max at_ hf);rw[elo,ehh];have ne:=bb.2.2;have eo:∀x,(Bd.join b lo hh).ord x=if x=lo then b.ord lo+1 else if x=hh then 0 else b.ord x:=λx=>rfl;have eh:(Bd.join b lo hh).ord hh=0:=by rw[eo,nJ,aJ rfl]
 have en:∀x,x≠lo->x≠hh->(Bd.join b lo hh).ord x=b.ord x:=λx h1 h2=>by rw[eo,aI h1,aI h2]
 intro x hx x0 x7 ht hxl hbl;have c2:x≠hh:=λc=>by rw[c,eh]at x0;omega
 rw[en x hxl c2]at x0 x7 hbl|-;by_cases c3:db x (sz (b.ord x))=hh
 .rw[c3,eh];rintro⟨e,_⟩;omega
 .rw[en _ hbl c3];exact n x hx x0 x7 ht bB bB
theorem NB.all{e:Nat}(n:NB b e)(he:e<64)(h:Inv b)(c:b.tk e=bw\/b.ord e=0\/7<=b.ord e\/b.tk (db e (sz (b.ord e)))=bw\/b.ord (db e (sz (b.ord e)))≠b.ord e):NB b 64:=by
 intro x hx x0 x7 ht _ _ hc;by_cases c1:x=e
 .subst c1;rcases c with c|c|c|c|c
  .rw[c]at ht;cases ht
  .omega
  .omega
  .rw[hc.2]at c;cases c
  .exact c hc.1
 .by_cases c2:db x (sz (b.ord x))=e
  .rw[c2]at hc;have bb:=vV (i:=x) (k:=b.ord x) bB bB (h.al x hx x0).1;rw[c2,<-hc.1]at bb;rcases c with c|c|c|c|c
   .rw[hc.2]at c;cases c
   .rw[c]at hc;omega
   .omega
   .rw[bb.1,ht]at c;cases c
   .rw[bb.1]at c;exact c hc.1.symm
  .exact n x hx x0 x7 ht c1 c2 hc
end
end Bd
namespace Bd
structure Ht (b:P)(o i:Nat):Prop where
 lt:i<64
 ord:o<b.ord i
 tk:b.tk i=bA
 least:∀j,j<64->o<b.ord j->b.tk j=bA->b.ord i<b.ord j\/(b.ord i=b.ord j/\i<=j)
def parts(b:P)(i:Nat):Nat->P
 |0=>b
 |n+1=>parts (half b i) i n
def mu(b:P)(o i:Nat):P:={parts b i (b.ord i-(o+1))with tk:=ov (parts b i (b.ord i-(o+1))).tk i bw}
def qo(b:P)(z e:Int)(r:Nat)(b':P):Prop:=((z<0\/6<z)/\e=1/\r=0/\b'=b)\/(¬(z<0\/6<z)/\(∀j,j<64->z.toNat<b.ord j->b.tk j=bw)/\e=4/\r=0/\b'=b)\/(¬(z<0\/6<z)/\Ht b z.toNat r/\e=0/\b'=mu b z.toNat r)
def ix(b:P)(z:Int):Int:=if z<0\/63<z then 1 else if b.tk z.toNat=bw then 0 else 2
def fX(b:P)(i:Nat):Bool:=decide (b.ord i<7)&&(decide (b.ord (db i (sz (b.ord i)))=b.ord i)&& !b.tk (db i (sz (b.ord i))))
def oV(b:P)(i:Nat):Nat->P
 |0=>b
 |n+1=>if fX b i=bw then oV (join b (min i (db i (sz (b.ord i)))) (max i (db i (sz (b.ord i))))) (min i (db i (sz (b.ord i)))) n else b
def kL(b:P)(i:Nat):P:=oV {b with tk:=ov b.tk i bA} i 7
def lE(b:P)(z:Int):P:=if ix b z=0 then kL b z.toNat else b
theorem BH{b:P}(hi:i<64):∀n,n<b.ord i->Inv b->b.tk i=bA->NB b i->Inv (parts b i n)/\NB (parts b i n) i/\(parts b i n).ord i=b.ord i-n/\(parts b i n).tk=b.tk:=by
 intro n
 induction n generalizing b with
 |zero=>intro _ h1 _ h3;exact⟨h1,h3,rfl,rfl⟩
 |succ n ih=>
  intro hn h1 h2 h3;have a:=h1.half hi bB h2;have r:=ih (b:=half b i) (by rw[a.2.1];omega) a.1 (by rw[a.2.2];exact h2) (h3.half h1 hi bB);refine⟨r.1,r.2.1,?_,?_⟩
  .show(parts (half b i) i n).ord i=_;rw[r.2.2.1,a.2.1];omega
  .show(parts (half b i) i n).tk=_;rw[r.2.2.2,a.2.2]
theorem NB.but{b:P}(n:NB b 64)(h:Inv b)(e:Nat):NB b e:=λi hi h0 h7 ht _ _=>n i hi h0 h7 ht bB (by
 have al:=h.al i hi h0;have key:∀k,1<=k->k<=7->k<=6->∀x,x<64->x%sz k=0->db x (sz k)≠64:=by
  refine oN (M:=λk s=>k<=6->∀x,x<64->x%s=0->db x s≠64) ?_ ?_ ?_ ?_ ?_ ?_ ?_
  all_goals
   intro hk x hx hm;unfold db;split<;>omega
 exact key _ h0 bB bB i hi al.1)
theorem Inv.taken{b:P}(h:Inv b)(h0:0<b.ord i)(n:NB b i)(hi:i<64):Inv {b with tk:=ov b.tk i bw}/\NB {b with tk:=ov b.tk i bw} 64:=by
 refine⟨⟨h.le,h.al,h.own,h.De,λx hx hx0=>?_⟩,?_⟩
 .by_cases c:x=i
  .rw[c];exact h0
  .have:(if x=i then bw else b.tk x)=bw:=hx0;rw[aI c]at this;exact h.tk x hx this
 .have n':NB {b with tk:=ov b.tk i bw} i:=λx hx x0 x7 ht xi bi hc=>by
   have e1:b.tk x=bA:=by
    have:(if x=i then bw else b.tk x)=bA:=ht;rw[aI xi]at this;exact this
   have e2:b.tk (db x (sz (b.ord x)))=bA:=by
    have:(if db x (sz (b.ord x))=i then bw else b.tk (db x (sz (b.ord x))))=bA:=hc.2;rw[aI bi]at this;exact this
   exact n x hx x0 x7 e1 xi bi ⟨hc.1,e2⟩
  have i':Inv {b with tk:=ov b.tk i bw}:=⟨h.le,h.al,h.own,h.De,λx hx hx0=>by
   by_cases c:x=i
   .rw[c];exact h0
   .have:(if x=i then bw else b.tk x)=bw:=hx0;rw[aI c]at this;exact h.tk x hx this⟩
  exact n'.all hi i' (.inl (by show(if i=i then bw else b.tk i)=bw;rw[aJ rfl]))
theorem Inv.mu{b:P}(h:Inv b)(n:NB b 64){o i:Nat}(k:Ht b o i):Inv (mu b o i)/\NB (mu b o i) 64/\(mu b o i).ord i=o+1/\(mu b o i).tk i=bw/\i%sz (o+1)=0/\∀j,j≠i->(Bd.mu b o i).tk j=b.tk j:=by
 have hb:=k.ord;have r:=BH k.lt (b.ord i-(o+1)) bB h k.tk (n.but h i);have eo:(parts b i (b.ord i-(o+1))).ord i=o+1:=by rw[r.2.2.1];omega
 have t:=r.1.taken (by rw[eo];omega) r.2.1 k.lt;refine⟨t.1,t.2,eo,?_,?_,λj hj=>?_⟩
 .show(if i=i then bw else _)=bw;rw[aJ rfl]
 .have:=(r.1.al i k.lt (by rw[eo];omega)).1;rw[eo]at this;exact this
 .show(if j=i then bw else(parts b i (b.ord i-(o+1))).tk j)=_;rw[aI hj,r.2.2.2]
theorem Inv.take{b b':P}(h:Inv b)(n:NB b 64){z e:Int}{r:Nat}(k:qo b z e r b'):Inv b'/\NB b' 64:=by
 rcases k with⟨_,_,_,rfl⟩|⟨_,_,_,_,rfl⟩|⟨_,k,_,rfl⟩
 .exact⟨h,n⟩
 .exact⟨h,n⟩
 .have:=h.mu n k;exact⟨this.1,this.2.1⟩
theorem KO:∀(n:Nat) {b:P} {i:Nat},i<64->0<b.ord i->7<=b.ord i+n->Inv b->b.tk i=bA->NB b i->Inv (oV b i n)/\NB (oV b i n) 64/\(oV b i n).tk=b.tk:=by
 intro n
 induction n with
 |zero=>intro b i hi h0 hn h1 h2 h3;exact⟨h1,h3.all hi h1 (.inr (.inr (.inl bB))),rfl⟩
 |succ n ih=>
  intro b i hi h0 hn h1 h2 h3;show Inv (if fX b i=bw then _ else b)/\NB (if fX b i=bw then _ else b) 64/\(if fX b i=bw then _ else b).tk=b.tk;by_cases c:fX b i=bw
  .rw[aJ c];unfold fX at c;simp only[Bool.and_eq_true,decide_eq_true_eq,Bool.not_eq_true']at c;have a:=h1.join hi h0 c.1 h2 c.2.1 c.2.2;have r:=ih (b:=join b (min i (db i (sz (b.ord i)))) (max i (db i (sz (b.ord i))))) (i:=min i (db i (sz (b.ord i)))) a.2.1 (by rw[a.2.2.1];omega) (by rw[a.2.2.1];omega) a.1 a.2.2.2 (h3.join h1 hi h0 c.1);exact⟨r.1,r.2.1,r.2.2⟩
  .rw[aI c];refine⟨h1,h3.all hi h1 ?_,rfl⟩;by_cases c1:b.ord i<7
   .by_cases c2:b.ord (db i (sz (b.ord i)))=b.ord i
    .refine .inr (.inr (.inr (.inl ?_)));cases c3:b.tk (db i (sz (b.ord i)))
     .exact aZ (by unfold fX;simp[c1,c2,c3]) c
     .rfl
    .exact .inr (.inr (.inr (.inr c2)))
   .exact .inr (.inr (.inl bB))
theorem Inv.kL{b:P}(h:Inv b)(n:NB b 64){i:Nat}(hi:i<64)(ht:b.tk i=bw):Inv (kL b i)/\NB (kL b i) 64/\(kL b i).tk=ov b.tk i bA:=by
 have h0:=h.tk i hi ht;have i':Inv {b with tk:=ov b.tk i bA}:=⟨h.le,h.al,h.own,h.De,λx hx hx0=>by
  have:(if x=i then bA else b.tk x)=bw:=hx0;by_cases c:x=i
  .rw[aJ c]at this;cases this
  .rw[aI c]at this;exact h.tk x hx this⟩
 have n':NB {b with tk:=ov b.tk i bA} i:=λx hx x0 x7 htx xi bi hc=>by
  have e1:b.tk x=bA:=by
   have:(if x=i then bA else b.tk x)=bA:=htx;rw[aI xi]at this;exact this
  have e2:b.tk (db x (sz (b.ord x)))=bA:=by
   have:(if db x (sz (b.ord x))=i then bA else b.tk (db x (sz (b.ord x))))=bA:=hc.2;rw[aI bi]at this;exact this
  exact(n.but h i) x hx x0 x7 e1 xi bi ⟨hc.1,e2⟩
 exact KO 7 (b:={b with tk:=ov b.tk i bA}) hi h0 bB i' (by show(if i=i then bA else b.tk i)=bA;rw[aJ rfl]) n'
theorem Inv.Tx{b:P}(h:Inv b)(n:NB b 64)(z:Int):Inv (lE b z)/\NB (lE b z) 64:=by
 unfold lE;by_cases c:ix b z=0
 .rw[aJ c];unfold ix at c;by_cases c1:z<0\/63<z
  .rw[aJ c1]at c;omega
  .rw[aI c1]at c;by_cases c2:b.tk z.toNat=bw
   .have:=h.kL n bB c2;exact⟨this.1,this.2.1⟩
   .rw[aI c2]at c;omega
 .rw[aI c];exact⟨h,n⟩
def b0:P:=⟨λi=>if i=0 then 7 else 0,λ_=>bA⟩
theorem xz:Inv b0/\NB b0 64:=by
 have e:∀i,0<b0.ord i->i=0:=λi h=>by
  by_cases c:i=0
  .exact c
  .have:(if i=0 then 7 else 0)>0:=h;rw[aI c]at this;omega
 refine⟨⟨λi _=>?_,λi _ h0=>?_,λi j _ h0 h1 _=>?_,λj hj=>⟨0,bB,by decide,by show j<0+sz 7;have:sz 7=64:=rfl;omega⟩,λi _ h=>by cases h⟩,λi _ h0 h7=>?_⟩
 .show(if i=0 then 7 else 0)<=7;split<;>omega
 .rw[e i h0];exact⟨by decide,by decide⟩
 .show(if j=0 then 7 else 0)=0;rw[nJ]
 .rw[e i h0]at h7;exact aZ h7 bE
end Bd
open Go.RowKit
open Bd (P)
def pz:P:=⟨λ_=>0,λ_=>bA⟩
def qg(w:bD)(b o:Nat):Nat:=match w.cell? ⟨b,o,bu⟩with|some v=>(intOf v).toNat|none=>0
theorem ta(h:w.cell? ⟨b,o,bu⟩=bj (aa az (n:Int))):qg w b o=n:=by unfold qg;rw[h];rfl
theorem Ji(p:P)(i n:Nat):Bd.parts p i (n+1)=Bd.half (Bd.parts p i n) i:=by
 induction n generalizing p with
 |zero=>rfl
 |succ n ih=>show Bd.parts (Bd.half p i) i (n+1)=_;rw[ih];rfl
theorem Mq(x s:Nat):((x:Int)+(s:Int)).toNat=x+s:=bB
section
attribute [local go_sem] Mq
end
namespace Bd
theorem J1(hk:1<=k)(hk6:k<=6)(hi:i<64)(h:i%sz k=0):db i (sz k)<64/\(i/sz k%2=1->sz k<=i):=by
 have key:∀k,1<=k->k<=7->k<=6->∀x,x<64->x%sz k=0->db x (sz k)<64/\(x/sz k%2=1->sz k<=x):=by
  refine oN (M:=λk s=>k<=6->∀x,x<64->x%s=0->db x s<64/\(x/s%2=1->s<=x)) ?_ ?_ ?_ ?_ ?_ ?_ ?_
  all_goals
   intro hk x hx hm;refine⟨?_,λc=>bB⟩;unfold db;split<;>omega
 exact key k hk bB hk6 i hi h
theorem Oj{p:P}(h:fX p i=bA)(n:Nat):oV p i n=p:=by
 cases n with
 |zero=>rfl
 |succ n=>show(if fX p i=bw then _ else p)=p;rw[h,aI bE]
theorem KQ{p:P}(h:fX p i=bw)(n:Nat):oV p i (n+1)=oV (join p (min i (db i (sz (p.ord i)))) (max i (db i (sz (p.ord i))))) (min i (db i (sz (p.ord i)))) n:=by
 show(if fX p i=bw then _ else p)=_;rw[aJ h]
structure yo (q:P)(i n:Nat)(G:P):Prop where
 inv:Inv q
 lt:i<64
 pos:0<q.ord i
 tk:q.tk i=bA
 fu:7<=q.ord i+n
 eq:oV q i n=G
theorem yo.start{p:P}(h:Inv p)(hi:i<64)(ht:p.tk i=bw):yo {p with tk:=ov p.tk i bA} i 7 (kL p i):=by
 refine⟨⟨h.le,h.al,h.own,h.De,λx hx hx0=>?_⟩,hi,h.tk i hi ht,?_,bB,rfl⟩
 .have:(if x=i then bA else p.tk x)=bw:=hx0;by_cases c:x=i
  .rw[aJ c]at this;cases this
  .rw[aI c]at this;exact h.tk x hx this
 .show(if i=i then bA else p.tk i)=bA;rw[aJ rfl]
theorem yo.next{q G:P}(h:yo q i (n+1) G)(f:fX q i=bw):yo (join q (min i (db i (sz (q.ord i)))) (max i (db i (sz (q.ord i))))) (min i (db i (sz (q.ord i)))) n G:=by
 have f':=f;unfold fX at f;simp only[Bool.and_eq_true,decide_eq_true_eq,Bool.not_eq_true']at f;have a:=h.inv.join h.lt h.pos f.1 h.tk f.2.1 f.2.2;exact⟨a.1,a.2.1,by rw[a.2.2.1];omega,a.2.2.2,by rw[a.2.2.1];have:=h.fu;omega,by rw[<-h.eq,KQ f']⟩
end Bd
namespace Bd
def Dr(z:Int):Int:=if z<0\/6<z then 1 else 0
end Bd
namespace Bd
def st(p:P)(i:Nat):Nat:=if p.ord i=0 then 0 else if p.tk i=bw then 2 else 1
def od(p:P)(i:Nat):Nat:=p.ord i-1
theorem AO{p:P}(h:0<p.ord i)(t:p.tk i=bA):st p i=1:=by unfold st;rw[nJ,aI (by rw[t];decide)]
theorem Pm{p:P}(h:0<p.ord i)(t:p.tk i=bw):st p i=2:=by unfold st;rw[nJ,aJ t]
theorem Mj{p:P}:st p i=1↔0<p.ord i/\p.tk i=bA:=by
 constructor
 .intro h;unfold st at h;by_cases c:p.ord i=0
  .rw[aJ c]at h;omega
  .rw[aI c]at h;cases t:p.tk i
   .exact⟨by omega,rfl⟩
   .rw[aJ t]at h;omega
 .rintro⟨h1,h2⟩;exact AO h1 h2
theorem Mk{p:P}(hI:Inv p)(hi:i<64):st p i=2↔p.tk i=bw:=by
 constructor
 .intro h;unfold st at h;by_cases c:p.ord i=0
  .rw[aJ c]at h;omega
  .rw[aI c]at h;cases t:p.tk i
   .rw[aI (by rw[t];decide)]at h;omega
   .rfl
 .intro h;exact Pm (hI.tk i hi h) h
end Bd
structure CA (w:bD)(b:Nat)(s d:Nat->Nat):Prop where
 da:∃C,w.heap[b]? =bj (.cells C 280 (0,0))/\C.size=128
 c0:∀i,i<64->w.cell? ⟨b,i*2,bu⟩=bj (aa az (s i:Int))
 c1:∀i,i<64->w.cell? ⟨b,i*2+1,bu⟩=bj (aa az (d i:Int))
def eC(w:bD)(b:Nat)(p:P):Prop:=CA w b (Bd.st p) (Bd.od p)
section
variable {w w':bD}{b:Nat}{s d s' d':Nat->Nat}
theorem CA.drewN(h:CA w b s d)(n:Nat):CA (w.drewN n) b s d:=⟨h.da,h.c0,h.c1⟩
theorem CA.drew(h:CA w b s d):CA w.drew b s d:=⟨h.da,h.c0,h.c1⟩
theorem CA.frozen(h:CA w b s d)(o:Nat):w.frozen? ⟨b,o,bu⟩=bA:=by obtain⟨C,h1,_⟩:=h.da;exact cE h1 o
theorem CA.lt(h:CA w b s d):b<w.heap.size:=by obtain⟨C,h1,_⟩:=h.da;exact(aX.1 h1).1
theorem CA.same(h:CA w b s d)(e:w'.heap[b]? =w.heap[b]?):CA w' b s d:=⟨by rw[e];exact h.da,λo ho=>(aV e).trans (h.c0 o ho),λo ho=>(aV e).trans (h.c1 o ho)⟩
theorem CA.below(h:CA w b s d)(k:Below w.heap.size w w'):CA w' b s d:=h.same (k.block b h.lt)
theorem CA.congr(h:CA w b s d)(e:∀i,i<64->s' i=s i/\d' i=d i):CA w b s' d':=⟨h.da,λi hi=>by rw[(e i hi).1];exact h.c0 i hi,λi hi=>by rw[(e i hi).2];exact h.c1 i hi⟩
theorem CA.AK(h:CA w b s d)(i v:Nat)(hi:i<64):CA (w.setCell ⟨b,i*2,bu⟩ (aa az (v:Int))) b (Bd.up s i v) d:=by
 obtain⟨C,h1,h2⟩:=h.da;refine⟨⟨_,cQ h1 _ _,by simpa using h2⟩,λj hj=>?_,λj hj=>?_⟩
 .unfold Bd.up;by_cases e:j=i
  .subst e;rw[dF h1 _ _ bB,aJ rfl]
  .rw[dm h1 _ _ _ bB,aI e];exact h.c0 j hj
 .rw[dm h1 _ _ _ bB];exact h.c1 j hj
theorem CA.xN(h:CA w b s d)(i v:Nat)(hi:i<64):CA (w.setCell ⟨b,i*2+1,bu⟩ (aa az (v:Int))) b s (Bd.up d i v):=by
 obtain⟨C,h1,h2⟩:=h.da;refine⟨⟨_,cQ h1 _ _,by simpa using h2⟩,λj hj=>?_,λj hj=>?_⟩
 .rw[dm h1 _ _ _ bB];exact h.c0 j hj
 .unfold Bd.up;by_cases e:j=i
  .subst e;rw[dF h1 _ _ bB,aJ rfl]
  .rw[dm h1 _ _ _ bB,aI e];exact h.c1 j hj
end
section
variable {w w':bD}{b:Nat}{p p':P}
theorem eC.drewN(h:eC w b p)(n:Nat):eC (w.drewN n) b p:=CA.drewN h n
theorem eC.drew(h:eC w b p):eC w.drew b p:=CA.drew h
theorem eC.frozen(h:eC w b p)(o:Nat):w.frozen? ⟨b,o,bu⟩=bA:=CA.frozen h o
theorem eC.lt(h:eC w b p):b<w.heap.size:=CA.lt h
theorem eC.same(h:eC w b p)(e:w'.heap[b]? =w.heap[b]?):eC w' b p:=CA.same h e
theorem eC.below(h:eC w b p)(k:Below w.heap.size w w'):eC w' b p:=CA.below h k
theorem eC.uA(h:eC w b p)(i:Nat)(hi:i<64):w.cell? ⟨b,i*2,bu⟩=bj (aa az (Bd.st p i:Int)):=h.c0 i hi
theorem eC.wL(h:eC w b p)(i:Nat)(hi:i<64):w.cell? ⟨b,i*2+1,bu⟩=bj (aa az (Bd.od p i:Int)):=h.c1 i hi
end
def Dg:Array Value:=((List.range 128).map λ_=>aa .i64 0).toArray
theorem P6:Tryz.zeroCells280=Dg:=by kernel_rfl
theorem P3(i:Nat)(h:i<128):Dg[i]? =bj (aa .i64 0):=by simp[Dg,h]
theorem Tk(h:w.heap[b]? =bj (.cells Dg 280 (0,0))):CA w b (λ_=>0) (λ_=>0):=by
 refine⟨⟨_,h,by simp[Dg]⟩,λo ho=>?_,λo ho=>?_⟩
 .rw[bR h,P3 _ bB];rfl
 .rw[bR h,P3 _ bB];rfl
theorem QO:∀(i:Fin 64) (k:Fin 7),IntKind.i64.wrap ((BitVec.ofInt 64 ((i.1:Nat):Int)^^^BitVec.ofInt 64 (((2^k.1:Nat)):Int)).toNat:Int)=((Bd.db i.1 (2^k.1):Nat):Int):=by decide+kernel
theorem VA(h:CA w b (Bd.up (λ_=>0) 0 1) (Bd.up (λ_=>0) 0 6)):eC w b Bd.b0:=by
 refine CA.congr h (λi _=>?_);unfold Bd.st Bd.od Bd.up Bd.b0;by_cases c:i=0<;>simp[c]
theorem Nz(w:bD):Calls prog 163 #[] w λe w'=>e=bf (ai (bj ⟨w.heap.size,0,bu⟩))/\eC w' w.heap.size Bd.b0/\Below w.heap.size w w'/\w.heap.size<w'.heap.size:=by
 have Z:(w.alloc (.cells Tryz.zeroCells280 280)).heap[w.heap.size]? =bj (.cells Dg 280 (0,0)):=by
  rw[P6];exact heap_alloc_new w _
 have Z2:(w.alloc (.cells ((Tryz.zeroCells280.setIfInBounds 0 (aa IntKind.i64 1)).setIfInBounds 1 (aa IntKind.i64 6)) 280)).heap[w.heap.size]? =bj (.cells ((Dg.setIfInBounds 0 (aa IntKind.i64 1)).setIfInBounds 1 (aa IntKind.i64 6)) 280 (0,0)):=by
  rw[P6];exact heap_alloc_new w _
 have FIN:Hid (eC (w.alloc (.cells ((Tryz.zeroCells280.setIfInBounds 0 (aa IntKind.i64 1)).setIfInBounds 1 (aa IntKind.i64 6)) 280)) w.heap.size Bd.b0):=hJ (by
  have h:=((Tk Z).AK 0 1 bB).xN 0 6 bB;refine(VA h).same ?_;rw[Z2];exact(cQ (cQ Z 0 _) 1 _).symm)
 go_in
 go_wp2
 go_ret
 exact⟨rfl,FIN.v,(aQ _ _).alloc (aL _) _,by simp⟩
theorem sQ(z:Int)(w:bD):Calls prog 320 #[aa az z] w λe w'=>e=bf (bN (Bd.Dr z))/\w'=w:=by
 by_cases k:z<0\/6<z
 .have e:Hid (Bd.Dr z=1):=hJ (aJ k);by_cases h0:z<0
  .clear k;go_in
   go_wp2
   go_ret
   rw[e.v];exact⟨rfl,rfl⟩
  .have h1:decide (z<0)=bA:=by simp;omega
   have h2:6<z:=bB
   go_in
   go_wp2
   go_ret
   rw[e.v];exact⟨rfl,rfl⟩
 .have e:Hid (Bd.Dr z=0):=hJ (aI k);have h1:decide (z<0)=bA:=by simp;omega
  have h2:decide (6<z)=bA:=by simp;omega
  go_in
  go_wp2
  go_ret
  rw[e.v];exact⟨rfl,rfl⟩
theorem Uu(k:Nat)(hk:k<=6):wrap64 ((2:Int)^k)=((Bd.sz (k+1):Nat):Int):=by
 have:∀k:Fin 7,wrap64 ((2:Int)^k.1)=((Bd.sz (k.1+1):Nat):Int):=by decide+kernel
 exact this ⟨k,bB⟩
theorem Nr(i k:Nat)(hi:i<64)(hk:k<=6):bits BinOp.xor az (i:Int) ((Bd.sz (k+1):Nat):Int)=((Bd.db i (Bd.sz (k+1)):Nat):Int):=by
 have:=QO ⟨i,hi⟩ ⟨k,bB⟩;unfold Bd.sz;rw[aP];exact this
theorem Kf(k:Nat)(hk:k<=6)(w:bD):Calls prog 229 #[aa az k] w λe w'=>e=bf (aa az (Bd.sz (k+1):Int))/\w'=w:=by
 have E:=hJ (Uu k hk);go_in
 go_wp2
 go_ret
 rw[E.v];exact⟨rfl,rfl⟩
theorem uB(i k:Nat)(hi:i<64)(hk:k<=6)(w:bD):Calls prog 317 #[aa az i,aa az k] w λe w'=>e=bf (aa az (Bd.db i (Bd.sz (k+1)):Int))/\w'=w:=by
 have E:=hJ (Nr i k hi hk);go_in
 go_wp2_with fail
 refine(Kf k hk _).mono ?_;rintro e w1 ⟨rfl,hw⟩;subst w1;go_wp2
 go_ret
 rw[E.v];exact⟨rfl,rfl⟩
def Bd.xJ(p:P)(z:Int):Nat:=if Bd.ix p z=0 then Bd.od p z.toNat else 0
theorem yN(b:Nat)(z:Int)(p:P)(w:bD)(h:eC w b p)(hI:Bd.Inv p):Calls prog 290 #[ai (bj ⟨b,0,bu⟩),aa az z] w λe w'=>e=bf (ao #[aa az (Bd.xJ p z:Int),bN (Bd.ix p z)])/\w'=w:=by
 by_cases k:z<0\/63<z
 .have e:Hid (Bd.ix p z=1/\Bd.xJ p z=0):=hJ (by
   have:Bd.ix p z=1:=aJ k;exact⟨this,by unfold Bd.xJ;rw[this];rfl⟩)
  by_cases h0:z<0
  .clear k;go_in
   go_wp2
   go_ret2
   rw[e.1,e.2];exact⟨rfl,rfl⟩
  .have h1:decide (z<0)=bA:=by simp;omega
   have h2:64<=z:=bB
   go_in
   go_wp2
   go_ret2
   rw[e.1,e.2];exact⟨rfl,rfl⟩
 .obtain⟨n,rfl⟩:=aG (show 0<=z by omega);have hn:n<64:=bB
  have h1:(n:Int)<64:=bB
  have h2:decide (64<=(n:Int))=bA:=by simp;omega
  have c0:=h.uA n hn;have c1:=h.wL n hn;cases hh:p.tk n
  .have e:Hid (Bd.ix p n=2/\Bd.xJ p n=0):=hJ (by
    have:Bd.ix p n=2:=by unfold Bd.ix;rw[aI k,hZ,hh];rfl
    exact⟨this,by unfold Bd.xJ;rw[this];rfl⟩)
   have s2:((Bd.st p n:Int)==2)=bA:=by
    have:Bd.st p n≠2:=λc=>by rw[(Bd.Mk hI hn).1 c]at hh;cases hh
    simp;omega
   generalize Bd.st p n=s at*;go_in
   go_wp2
   go_ret2
   rw[e.1,e.2];exact⟨rfl,rfl⟩
  .have e:Hid (Bd.ix p n=0/\Bd.xJ p n=Bd.od p n):=hJ (by
    have:Bd.ix p n=0:=by unfold Bd.ix;rw[aI k,hZ,hh];rfl
    exact⟨this,by unfold Bd.xJ;rw[this,aJ rfl,hZ]⟩)
   rw[(Bd.Mk hI hn).2 hh]at c0;have c0':w.cell? ⟨b,n*2,bu⟩=bj (aa .i64 2):=c0;go_in
   go_wp2
   go_ret2
   rw[e.1,e.2];exact⟨rfl,rfl⟩
theorem Ro{p:P}(hI:Bd.Inv p)(hx:x<64)(ho:p.ord x=k+2)(ht:p.tk x=bA)(h:CA w b (Bd.up (Bd.st p) (x+Bd.sz (k+1)) 1) (Bd.up (Bd.up (Bd.od p) x k) (x+Bd.sz (k+1)) k)):eC w b (Bd.half p x):=by
 have al:=hI.al x hx bB;rw[ho]at al;have sp:=Bd.sL (k+1);have ss:=Bd.oO (k:=k+1) bB;have o0:=hI.own x (x+Bd.sz (k+1)) hx bB bB (by rw[ho,show k+2=k+1+1 from rfl,ss];omega);have t0:p.tk (x+Bd.sz (k+1))=bA:=by
  cases c:p.tk (x+Bd.sz (k+1))
  .rfl
  .have:=hI.tk _ (by rw[show k+2=k+1+1 from rfl,ss]at al;omega) c;omega
 obtain⟨s,hs⟩:=hU (Bd.sz (k+1));rw[hs]at h sp o0 t0;have eo:∀i,(Bd.half p x).ord i=if i=x+s then k+1 else if i=x then k+1 else p.ord i:=λi=>by
  unfold Bd.half Bd.up;rw[ho,show k+2-1=k+1 from rfl,hs]
 have et:∀i,(Bd.half p x).tk i=p.tk i:=λi=>rfl;refine CA.congr h (λi _=>?_);unfold Bd.st Bd.od Bd.up;rw[eo,et];by_cases c1:i=x+s
 .subst c1;rw[aJ rfl,aJ rfl,aJ rfl,nJ,t0,aI bE];exact⟨rfl,rfl⟩
 .rw[aI c1,aI c1,aI c1];by_cases c2:i=x
  .subst c2;rw[aJ rfl,aJ rfl,nJ,ht,aI bE];refine⟨?_,rfl⟩;show 1=if p.ord i=0 then 0 else if p.tk i=bw then 2 else 1;rw[ho,ht];rfl
  .rw[aI c2,aI c2];exact⟨rfl,rfl⟩
theorem Ke(b x k:Nat)(p:P)(w:bD)(h:eC w b p)(hI:Bd.Inv p)(hx:x<64)(ho:p.ord x=k+2)(ht:p.tk x=bA):
  Calls prog 322 #[ai (bj ⟨b,0,bu⟩),aa az x] w λe w'=>e=bf (ao #[])/\eC w' b (Bd.half p x)/\bG b w w':=by
 have al:=hI.al x hx bB;rw[ho]at al;have k5:k<=5:=by have:=hI.le x hx;omega
 have hb:=(Bd.zV (i:=x) (k:=k+1) bB bB rfl al.1).2.2.2;have y64:x+Bd.sz (k+1)<64:=by
  have ss:=Bd.oO (k:=k+1) bB;have sp:=Bd.sL (k+1);rw[show k+2=k+1+1 from rfl,ss]at al;omega
 have c1:=h.wL x hx;have eo:Bd.od p x=k+1:=by unfold Bd.od;rw[ho];rfl
 rw[eo]at c1;have cf:=h.frozen;have xI:(x:Int)<64:=bB
 have FIN:Hid (∀W,CA W b (Bd.up (Bd.st p) (x+Bd.sz (k+1)) 1) (Bd.up (Bd.up (Bd.od p) x k) (x+Bd.sz (k+1)) k)->eC W b (Bd.half p x)):=hJ (λW hW=>Ro hI hx ho ht hW);have HF:=hJ h;have HH:=hJ (uB x k hx bB);rw[hb]at HH;obtain⟨y,hy⟩:=hU (x+Bd.sz (k+1));rw[hy]at HH FIN y64;have yI:(y:Int)<64:=bB
 have hw1:IntKind.i64.wrap (((k+1:Nat):Int)-1)=(k:Int):=by rw[show((k+1:Nat):Int)-1=(k:Int)by omega];exact aN _ ⟨by omega,bB⟩
 go_in
 go_wp2_with fail
 refine cJ (λW=>CA W b (Bd.st p) (Bd.up (Bd.od p) x k)/\bG b w W) ⟨CA.xN HF.v x k hx,(bG.refl b w).setCell _ _⟩ ?_;rintro W1 ⟨h1,f1⟩;have S1:=hJ (aK h1 f1);have d0:=h1.c0 y y64;have d1:=h1.c1 y y64;have df:=h1.frozen;go_region_with ((go_at_call 317;refine sC (HH.v _) ?_;rintro w2 hw2;subst w2))
 go_end0
 exact⟨rfl,FIN.v _ ((S1.1.AK y 1 y64).xN y k y64).drew,((S1.2.setCell _ _).setCell _ _).drew⟩
theorem Kr{q:P}(h0:0<q.ord i):Bd.fX q i=(decide (Bd.od q i<6)&&(decide (Bd.st q (Bd.db i (Bd.sz (Bd.od q i+1)))=1)&&decide (Bd.od q (Bd.db i (Bd.sz (Bd.od q i+1)))=Bd.od q i))):=by
 have e:Bd.od q i+1=q.ord i:=by unfold Bd.od;omega
 rw[e];unfold Bd.fX;obtain⟨f,hf⟩:=hU (Bd.db i (Bd.sz (q.ord i)));rw[hf];apply Bool.eq_iff_iff.2;simp only[Bool.and_eq_true,decide_eq_true_eq,Bool.not_eq_true',Bd.Mj];have e2:Bd.od q f=q.ord f-1:=rfl;constructor
 .rintro⟨a,b,c⟩;exact⟨by omega,⟨by omega,c⟩,bB⟩
 .rintro⟨a,⟨b,c⟩,d⟩;exact⟨by omega,bB,c⟩
theorem yM(b i:Nat)(q:P)(w:bD)(h:eC w b q)(hI:Bd.Inv q)(hi:i<64)(h0:0<q.ord i):
  Calls prog 291 #[ai (bj ⟨b,0,bu⟩),aa az i] w λe w'=>e=bf (.bool (Bd.fX q i))/\∃n,w'=w.drewN n:=by
 have c1:=h.wL i hi;have iI:(i:Int)<64:=bB
 have FI:=hJ (Kr h0);have al:=(hI.al i hi h0).1;have e:Bd.od q i+1=q.ord i:=by unfold Bd.od;omega
 rw[<-e]at al;obtain⟨k,hk⟩:=hU (Bd.od q i);rw[hk]at c1 FI al e;have k6:k<=6:=by have:=hI.le i hi;omega
 by_cases hlt:k<6
 .have hltI:(k:Int)<6:=bB
  have BL:=(Bd.J1 (i:=i) (k:=k+1) bB bB hi al).1;have HH:=hJ (uB i k hi k6);obtain⟨f,hf⟩:=hU (Bd.db i (Bd.sz (k+1)));rw[hf]at HH FI BL;rw[aO hlt,Bool.true_and]at FI;have fI:(f:Int)<64:=bB
  have d0:=h.uA f BL;have d1:=h.wL f BL;obtain⟨s,hs⟩:=hU (Bd.st q f);obtain⟨o,ho⟩:=hU (Bd.od q f);rw[hs]at d0 FI;rw[ho]at d1 FI;by_cases e1:s=1
  .by_cases e2:o=k
   .have FR:Hid (Bd.fX q i=bw):=hJ (by rw[FI.v,aO e1,aO e2];rfl);subst e1 e2;go_in
    go_wp2_with fail
    go_quiet ((go_at_call 317;refine Calls.quiet_of_same (HH.v _)))
    go_wp2
    go_ret
    rw[FR.v];exact⟨rfl,_,rfl⟩
   .have FR:Hid (Bd.fX q i=bA):=hJ (by rw[FI.v,aT e2];simp);have e2':((o:Int)==(k:Int))=bA:=by simp;omega
    subst e1;go_in
    go_wp2_with fail
    go_quiet ((go_at_call 317;refine Calls.quiet_of_same (HH.v _)))
    go_wp2
    go_ret
    rw[FR.v];exact⟨rfl,_,rfl⟩
  .have FR:Hid (Bd.fX q i=bA):=hJ (by rw[FI.v,aT e1];rfl);have e1':((s:Int)==1)=bA:=by simp;omega
   go_in
   go_wp2_with fail
   go_quiet ((go_at_call 317;refine Calls.quiet_of_same (HH.v _)))
   go_wp2
   go_ret
   rw[FR.v];exact⟨rfl,_,rfl⟩
 .have hltI:decide ((k:Int)<6)=bA:=by simp;omega
  have FR:Hid (Bd.fX q i=bA):=hJ (by rw[FI.v,aT hlt];rfl);go_in
  go_wp2_with fail
  go_quiet (fail)
  go_wp2
  go_ret
  rw[FR.v];exact⟨rfl,_,rfl⟩
theorem GS{q:P}{lo hh:Nat}(hl0:0<q.ord lo)(hlt:q.tk lo=bA)(hne:lo≠hh)(h:CA w b (Bd.up (Bd.st q) hh 0) (Bd.up (Bd.up (Bd.od q) lo (Bd.od q lo+1)) hh 0)):eC w b (Bd.join q lo hh):=by
 have eo:∀x,(Bd.join q lo hh).ord x=if x=lo then q.ord lo+1 else if x=hh then 0 else q.ord x:=λx=>rfl;have et:∀x,(Bd.join q lo hh).tk x=q.tk x:=λx=>rfl;refine CA.congr h (λi _=>?_);unfold Bd.st Bd.od Bd.up;rw[eo,et];by_cases c1:i=lo
 .subst c1;rw[aJ rfl,aI hne,aI hne,aJ rfl,nJ];refine⟨?_,by show q.ord i+1-1=q.ord i-1+1;omega⟩;show _=if q.ord i=0 then 0 else if q.tk i=bw then 2 else 1;rw[hlt,aI (show¬q.ord i=0 by omega)]
 .rw[aI c1];by_cases c2:i=hh
  .subst c2;rw[aJ rfl,aJ rfl,aJ rfl,aJ rfl];exact⟨rfl,rfl⟩
  .rw[aI c2,aI c2,aI c2,aI c1];exact⟨rfl,rfl⟩
theorem Ka(b i:Nat)(q:P)(w:bD)(h:eC w b q)(hI:Bd.Inv q)(hi:i<64)(h0:0<q.ord i)(ht:q.tk i=bA)(hf2:Bd.fX q i=bw):
  Calls prog 292 #[ai (bj ⟨b,0,bu⟩),aa az i] w λe w'=>e=bf (aa az ((min i (Bd.db i (Bd.sz (q.ord i))):Nat):Int))/\eC w' b (Bd.join q (min i (Bd.db i (Bd.sz (q.ord i)))) (max i (Bd.db i (Bd.sz (q.ord i)))))/\bG b w w':=by
 have c1:=h.wL i hi;have iI:(i:Int)<64:=bB
 have al:=(hI.al i hi h0).1;have e:Bd.od q i+1=q.ord i:=by unfold Bd.od;omega
 unfold Bd.fX at hf2;simp only[Bool.and_eq_true,decide_eq_true_eq,Bool.not_eq_true']at hf2;obtain⟨f1,f2,f3⟩:=hf2;obtain⟨k,hk⟩:=hU (Bd.od q i);rw[hk]at c1 e;have HH:=hJ (uB i k hi bB);have BL:=(Bd.J1 (i:=i) (k:=k+1) bB bB hi (by rw[e];exact al)).1;have BB:=(Bd.vV (i:=i) (k:=k+1) bB bB (by rw[e];exact al)).2.2;rw[<-e]at f2 f3|-;obtain⟨f,hf⟩:=hU (Bd.db i (Bd.sz (k+1)));rw[hf]at HH BL BB f2 f3|-;have fI:(f:Int)<64:=bB
 have HF:=hJ h;have cf:=h.frozen;have hw1:IntKind.i64.wrap ((k:Int)+1)=(k:Int)+1:=aN _ ⟨by omega,bB⟩;have of:Bd.od q f=k:=by unfold Bd.od;omega
 have d0:=h.uA i hi;have d1:=h.uA f BL;have d2:=h.wL f BL;have Of:=of;have Oi:=hk;generalize Bd.st q i=s0 at d0;generalize Bd.st q f=s1 at d1;rw[of]at d2;by_cases c:f<i
 .have mm:min i f=f/\max i f=i:=⟨by omega,bB⟩;rw[mm.1,mm.2];have FIN:Hid (∀W,CA W b (Bd.up (Bd.st q) i 0) (Bd.up (Bd.up (Bd.od q) f (k+1)) i 0)->eC W b (Bd.join q f i)):=hJ (λW hW=>GS bB (by assumption) bB (by rw[Of];exact hW));have cI:(f:Int)<(i:Int):=bB
  have cI':¬(i:Int)<(f:Int):=bB
  go_in
  go_wp2_with fail
  refine sC (HH.v _) ?_;rintro w2 hw2;subst w2;go_wp2
  go_ret
  exact⟨rfl,FIN.v _ (((CA.xN HF.v f (k+1) bB).AK i 0 bB).xN i 0 bB),(((bG.refl b w).setCell _ _).setCell _ _).setCell _ _⟩
 .have mm:min i f=i/\max i f=f:=⟨by omega,bB⟩;rw[mm.1,mm.2];have FIN:Hid (∀W,CA W b (Bd.up (Bd.st q) f 0) (Bd.up (Bd.up (Bd.od q) i (k+1)) f 0)->eC W b (Bd.join q i f)):=hJ (λW hW=>GS bB (by assumption) bB (by rw[Oi];exact hW));have cI:(i:Int)<(f:Int):=bB
  have cI':¬(f:Int)<(i:Int):=bB
  go_in
  go_wp2_with fail
  refine sC (HH.v _) ?_;rintro w2 hw2;subst w2;go_wp2
  go_ret
  exact⟨rfl,FIN.v _ (((CA.xN HF.v i (k+1) bB).AK f 0 bB).xN f 0 bB),(((bG.refl b w).setCell _ _).setCell _ _).setCell _ _⟩
def oM(s d:Nat->Nat):List Value:=(List.range 128).map λo=>if o%2=0 then aa az (s (o/2):Int)else aa az (d (o/2):Int)
theorem Ef(s d:Nat->Nat):(oM s d).length=128:=by simp[oM]
theorem CA.range{s d:Nat->Nat}(h:CA w b s d):w.rangeAt b 0 (oM s d):=λj v hv=>by
 have hj:j<128:=by have:=(aY.1 hv).1;rwa [Ef]at this
 simp[oM,hj]at hv;rw[Nat.zero_add,<-hv];by_cases c:j%2=0
 .rw[aJ c];have:=h.c0 (j/2) bB;rw[show j/2*2=j by omega]at this;exact this
 .rw[aI c];have:=h.c1 (j/2) bB;rw[show j/2*2+1=j by omega]at this;exact this
theorem Si(s d:Nat->Nat)(x:Nat)(h:x<64):(oM s d).toArray.extract (x*2) (x*2+2)=#[aa az (s x:Int),aa az (d x:Int)]:=by
 have hs:(oM s d).toArray.size=128:=by simp[oM]
 apply bL;intro i;rw[Array.getElem?_extract];by_cases hi:i<2
 .rw[aJ (by rw[hs];omega)];have e:(oM s d).toArray[x*2+i]? =bj (if(x*2+i)%2=0 then aa az (s ((x*2+i)/2):Int)else aa az (d ((x*2+i)/2):Int)):=by
   simp[oM,show x*2+i<128 by omega]
  rw[e,show(x*2+i)/2=x by omega]
  match i,hi with
  |0,_=>rw[nK];rfl
  |1,_=>rw[nJ];rfl
 .rw[aI (by rw[hs];omega),aR (by simp;omega)]
theorem IE(s d:Nat->Nat)(x:Nat)(h:x<64)(w:bD):Sem.run prog (Instr.index 278 (Value.agg (oM s d).toArray) (aa az x)) w= .ok (.agg #[aa az (s x:Int),aa az (d x:Int)]) w:=by
 have hu:prog.underlying 278=bj (.array 64 277):=by kernel_rfl
 have hx:=Si s d x h;have h1:(x:Int)<64:=bB
 obtain⟨A,hA⟩:=hU ((oM s d).toArray);rw[hA]at hx|-;simp[Instr.index,Sem.run_bind,run_underlying hu,go_sem,hx];intro c;omega
theorem Mb(s d:Nat->Nat):(prog.info? 278).map (·.size)=bj (oM s d).length:=by rw[Ef];kernel_rfl
def Cz(p:P)(o r:Nat)(is:Bool):Prop:=(is=bA/\r=0/\∀j,j<64->o<p.ord j->p.tk j=bw)\/(is=bw/\Bd.Ht p o r)
def JP(p:P)(o k:Nat):Prop:=∀j,j<64->o<p.ord j->p.tk j=bA->k<p.ord j
theorem Iq(b o:Nat)(p:P)(w:bD)(h:eC w b p)(hI:Bd.Inv p)(ho:o<=6):
  Calls prog 321 #[ai (bj ⟨b,0,bu⟩),aa az o] w λe w'=>∃r is,e=bf (ao #[aa az ((r:Nat):Int), .bool is])/\Cz p o r is/\Below w.heap.size w w':=by
 have HF:=hJ h;have HI:=hJ hI;have hsz:=hJ (Mb (Bd.st p) (Bd.od p));clear h hI;go_in
 go_wp2
 go_loopw [6] (λs wr=>∃k:Nat,s=aa az k/\o<=k/\k<=7/\Hid (Below w.heap.size w wr/\JP p o k)) (λs _=>7-(intOf s).toNat)
 case atStart=>exact⟨o,rfl,bB,bB,aQ _ _,λj _ h1 _=>h1⟩
 case round=>
  obtain⟨k,rfl,hok,hk7,S⟩:=hrel;by_cases hk:k<=6
  .have hkI:(k:Int)<=6:=bB
   have HR:=hJ (CA.range (eC.below HF.v S.1));go_wp2_with (refine wpList_load_mid rfl 278 _ rfl b 0 rfl (oM (Bd.st p) (Bd.od p)) (.array 64 277) HR.v bC rfl hsz.v ?_)
   clear HR;go_loopw [18] (λs wr=>∃x:Nat,s=aa az x/\x<=64/\Hid (Below w.heap.size w wr/\∀j,j<x->¬(Bd.st p j=1/\Bd.od p j=k))) (λs _=>64-(intOf s).toNat)
   case atStart=>exact⟨0,rfl,bB,S.1,λj hj=>bB⟩
   case round=>
    obtain⟨x,rfl,hx64,T⟩:=hrel;by_cases hx:x<64
    .have hxI:(x:Int)<64:=bB
     have hix:=IE (Bd.st p) (Bd.od p) x hx;have BL:Hid (∀o,Below w.heap.size w (wr.alloc o)):=hJ (λo=>T.1.alloc T.1.size o);have NX:Hid (¬(Bd.st p x=1/\Bd.od p x=k)->∀j,j<x+1->¬(Bd.st p j=1/\Bd.od p j=k)):=hJ (λc j hj=>by
      by_cases e:j=x
      .rw[e];exact c
      .exact T.2 j bB)
     have FD:Hid (Bd.st p x=1->Bd.od p x=k->Cz p o x bw):=hJ (λc1 c2=>by
      have a:=Bd.Mj.1 c1;have e:Bd.od p x=p.ord x-1:=rfl;refine .inr ⟨rfl,hx,bB,a.2,λj hj h1 h2=>?_⟩;have nt:=S.2 j hj h1 h2;by_cases c:p.ord x<p.ord j
      .exact .inl c
      .refine .inr ⟨by omega,Nat.le_of_not_lt λc3=>?_⟩;exact T.2 j c3 ⟨Bd.AO bB h2,by show p.ord j-1=k;omega⟩)
     generalize Bd.st p x=sx at*;generalize Bd.od p x=dx at*;by_cases e1:sx=1
     .by_cases e2:dx=k
      .have F:=hJ (FD.v e1 e2);subst e1 e2;clear FD NX;go_wp2
       go_ret2
       exact⟨x,bw,rfl,F.v,BL.v _⟩
      .have N:=hJ (NX.v (λc=>e2 c.2));have e2':((dx:Int)==(k:Int))=bA:=by simp;omega
       subst e1;clear FD NX e2;go_wp2
       go_roundw
       case rel=>exact⟨x+1,by go_num,bB,BL.v _,N.v⟩
       case measure=>simp[intOf];omega
     .have N:=hJ (NX.v (λc=>e1 c.1));have e1':((sx:Int)==1)=bA:=by simp;omega
      clear FD NX e1;go_wp2
      go_roundw
      case rel=>exact⟨x+1,by go_num,bB,BL.v _,N.v⟩
      case measure=>simp[intOf];omega
    .have NN:Hid (JP p o (k+1)):=hJ (λj hj h1 h2=>by
      have:=S.2 j hj h1 h2;by_cases c:p.ord j=k+1
      .exact aZ ⟨Bd.AO bB h2,by show p.ord j-1=k;omega⟩ (T.2 j bB)
      .omega)
     have hx':x=64:=bB
     subst hx';go_wp2
     go_roundw
     case rel=>exact⟨k+1,by go_num,bB,bB,T.1,NN.v⟩
     case measure=>simp[intOf];omega
  .have hk':k=7:=bB
   subst hk';have FIN:Hid (Cz p o 0 bA):=hJ (.inl ⟨rfl,rfl,λj hj h1=>by
    cases t:p.tk j
    .have:=S.2 j hj h1 t;have:=HI.le j hj;omega
    .rfl⟩)
   go_wp2
   go_ret2
   exact⟨0,bA,rfl,FIN.v,S.1⟩
theorem Po{p:P}(ho:0<(Bd.parts p x (p.ord x-(o+1))).ord x)(h:eC w b (Bd.parts p x (p.ord x-(o+1))))(hx:x<64):eC (w.setCell ⟨b,x*2,bu⟩ (aa .i64 2)) b (Bd.mu p o x):=by
 refine CA.congr (CA.AK h x 2 hx) (λi _=>?_);unfold Bd.mu Bd.st Bd.od Bd.up Bd.ov;by_cases c:i=x
 .subst c;show(if(Bd.parts p i (p.ord i-(o+1))).ord i=0 then 0 else if(if i=i then bw else _)=bw then 2 else 1)=(if i=i then 2 else _)/\_;rw[nJ,aJ rfl,aJ rfl,aJ rfl];exact⟨rfl,rfl⟩
 .show(if(Bd.parts p x (p.ord x-(o+1))).ord i=0 then 0 else if(if i=x then bw else(Bd.parts p x (p.ord x-(o+1))).tk i)=bw then 2 else 1)=(if i=x then 2 else _)/\_;rw[aI c,aI c];exact⟨rfl,rfl⟩
theorem Is(b o:Nat)(p:P)(w:bD)(h:eC w b p)(hI:Bd.Inv p)(hN:Bd.NB p 64)(ho:o<=6):
  Calls prog 296 #[ai (bj ⟨b,0,bu⟩),aa az o] w λe w'=>∃(r:Nat) (E:Int) (p':P),e=bf (ao #[aa az r,bN E])/\Bd.qo p o E r p'/\eC w' b p'/\bG b w w':=by
 have HF:=hJ h;have HI:=hJ hI;have NI:=hJ hN;have HE:Hid (Bd.Dr (o:Int)=0):=hJ (nJ);go_in
 go_wp2_with fail
 refine sC (sQ o _) ?_;rintro w1 hw;subst w1;rw[HE.v,bF];go_wp2_with fail
 refine(Iq b o p _ HF.v HI.v ho).mono ?_;rintro e w1 ⟨x,is,rfl,hL,hB⟩;have S1:Hid (eC w1 b p/\bG b w w1):=hJ ⟨HF.below hB,bG.cL hB⟩;rcases hL with⟨rfl,rfl,hno⟩|⟨rfl,hB⟩
 .have FIN:Hid (Bd.qo p o 4 0 p):=hJ (.inr (.inl ⟨by omega,by rw[hZ];exact hno,rfl,rfl,rfl⟩));go_wp2
  go_ret2
  exact⟨0,4,p,rfl,FIN.v,S1.1,S1.2⟩
 .have HB:=hJ hB;have hx64:=hB.lt;have hxI:(x:Int)<64:=bB
  have S2:Hid (eC w1 b (Bd.parts p x 0)/\bG b w w1/\o+1+0<=p.ord x):=hJ ⟨S1.1,S1.2,by have:=hB.ord;omega⟩;go_wp2_with fail
  go_loopw [31] (λ_ wr=>∃n:Nat,Hid (eC wr b (Bd.parts p x n)/\bG b w wr/\o+1+n<=p.ord x)) (λ_ wr=>qg wr b (x*2+1))
  case atStart=>exact⟨0,S2⟩
  case round=>
   obtain⟨n,S⟩:=hrel;have PI:=hJ (Bd.BH hx64 n (by have:=S.2.2;have:=HB.ord;omega) HI.v HB.tk ((NI.v).but HI.v x));have hw7:=HI.le x hx64;obtain⟨q,hq⟩:=hU (Bd.parts p x n);have HQ:=hJ hq;have c1:=S.1.wL x hx64;have T:=hJ S.1;rw[hq]at c1 T PI;obtain⟨u,hu⟩:=hU (Bd.od q x);rw[hu]at c1;have eu:u+1+n=p.ord x:=by have:=PI.2.2.1;have:=S.2.2;have:Bd.od q x=q.ord x-1:=rfl;omega
   have uo:q.ord x=u+1:=by have:=PI.2.2.1;omega
   have UO:=hJ uo;have CC:=hJ c1;have HT:Hid (q.tk x=bA):=hJ (by rw[PI.2.2.2];exact HB.tk);by_cases hgt:o<u
   .obtain⟨k,rfl⟩:∃k,u=k+1:=⟨u-1,bB⟩;have hgtI:(o:Int)<((k+1:Nat):Int):=bB
    go_wp2_with fail
    refine sC (Ke b x k q _ T.v PI.1 hx64 UO.v HT.v) ?_;rintro w2 ⟨t2,f2⟩;have T2:Hid (eC w2 b (Bd.parts p x (n+1))/\bG b w w2/\o+1+(n+1)<=p.ord x):=hJ ⟨by rw[Ji,HQ.v];exact t2,S.2.1.trans f2,bB⟩;have CN:Hid (qg w2 b (x*2+1)=k):=hJ (ta (by
     rw[t2.wL x hx64];have:=(PI.1.half hx64 (by rw[UO.v];omega) HT.v).2.1;unfold Bd.od;rw[this,UO.v];rfl))
    go_wp2
    go_roundw
    case rel=>exact⟨n+1,T2⟩
    case measure=>
     rw[CN.v,ta CC.v];omega
   .have hgtI:decide ((o:Int)<(u:Int))=bA:=by simp;omega
    have EN:Hid (n=p.ord x-(o+1)):=hJ (by have:=S.2.2;omega);have c3:=T.uA x hx64;have cf:=T.frozen;have T3:Hid (eC (wr.setCell ⟨b,x*2,bu⟩ (aa .i64 2)) b (Bd.mu p o x)/\bG b w (wr.setCell ⟨b,x*2,bu⟩ (aa .i64 2))):=hJ (by
     refine⟨Po ?_ ?_ hx64,S.2.1.setCell _ _⟩
     .rw[<-EN.v,HQ.v,UO.v];omega
     .rw[<-EN.v];exact S.1)
    go_wp2
    go_ret2
    exact⟨x,0,_,rfl, .inr (.inr ⟨by omega,by rw[hZ];exact HB.v,rfl,by rw[hZ]⟩),T3.1,T3.2⟩
theorem Fs(b:Nat)(z:Int)(w:bD)(k:z<0\/6<z):
  Calls prog 296 #[ai (bj ⟨b,0,bu⟩),aa az z] w λe w'=>e=bf (ao #[aa az 0,bN 1])/\w'=w:=by
 have HE:Hid (Bd.Dr z=1):=hJ (aJ k);go_in
 go_wp2_with fail
 refine sC (sQ z _) ?_;rintro w1 hw;subst w1;rw[HE.v,bH bE];go_wp2
 go_ret2
 exact⟨rfl,rfl⟩
theorem Kg(b:Nat)(z:Int)(p:P)(w:bD)(h:eC w b p)(hI:Bd.Inv p)(hN:Bd.NB p 64):
  Calls prog 296 #[ai (bj ⟨b,0,bu⟩),aa az z] w λe w'=>∃(r:Nat) (E:Int) (p':P),e=bf (ao #[aa az r,bN E])/\Bd.qo p z E r p'/\eC w' b p'/\bG b w w':=by
 by_cases k:z<0\/6<z
 .refine sC (Fs b z w k) ?_;rintro w' rfl;exact⟨0,1,p,rfl, .inl ⟨k,rfl,rfl,rfl⟩,h,bG.refl _ _⟩
 .obtain⟨o,rfl⟩:=aG (show 0<=z by omega);exact Is b o p w h hI hN bB
theorem Tw{p:P}{j:Nat}(h0:0<p.ord j)(h:eC w b p)(hj:j<64):eC (w.setCell ⟨b,j*2,bu⟩ (aa .i64 1)) b {p with tk:=Bd.ov p.tk j bA}:=by
 refine CA.congr (CA.AK h j 1 hj) (λi _=>?_);unfold Bd.st Bd.od Bd.up Bd.ov;by_cases c:i=j
 .subst c;show(if p.ord i=0 then 0 else if(if i=i then bA else _)=bw then 2 else 1)=(if i=i then 1 else _)/\_;rw[nJ,aJ rfl,aJ rfl];exact⟨rfl,rfl⟩
 .show(if p.ord i=0 then 0 else if(if i=j then bA else p.tk i)=bw then 2 else 1)=(if i=j then 1 else _)/\_;rw[aI c,aI c];exact⟨rfl,rfl⟩
theorem Fq(b:Nat)(z:Int)(p:P)(w:bD)(h:eC w b p)(hI:Bd.Inv p)(k:Bd.ix p z≠0):
  Calls prog 271 #[ai (bj ⟨b,0,bu⟩),aa az z] w λe w'=>e=bf (bN (Bd.ix p z))/\w'=w:=by
 have HF:=hJ (aK h hI);obtain⟨E,hE⟩:=hU (Bd.ix p z);have HX:=hJ hE;rw[hE]at k;have HK:=hJ k;go_in
 go_wp2_with fail
 refine sC (yN b z p _ HF.1 HF.2) ?_;rintro w1 hw;subst w1;rw[HX.v,bH HK.v];go_wp2
 go_ret
 rw[HX.v,bH HK.v];exact⟨rfl,rfl⟩
theorem Nt(b j:Nat)(p:P)(w:bD)(h:eC w b p)(hI:Bd.Inv p)(hj:j<64)(ht:p.tk j=bw):
  Calls prog 271 #[ai (bj ⟨b,0,bu⟩),aa az j] w λe w'=>e=bf (bN 0)/\eC w' b (Bd.kL p j)/\bG b w w':=by
 have HF:=hJ (aK h hI);have HK:Hid (Bd.ix p j=0):=hJ (by unfold Bd.ix;rw[nJ,hZ,aJ ht]);have c0:=h.uA j hj;have cf0:=h.frozen;have hjI:(j:Int)<64:=bB
 have S0:Hid (eC (w.setCell ⟨b,j*2,bu⟩ (aa .i64 1)) b {p with tk:=Bd.ov p.tk j bA}/\bG b w (w.setCell ⟨b,j*2,bu⟩ (aa .i64 1))/\Bd.yo {p with tk:=Bd.ov p.tk j bA} j 7 (Bd.kL p j)):=hJ ⟨Tw (hI.tk j hj ht) h hj,(bG.refl b w).setCell _ _,Bd.yo.start hI hj ht⟩;clear h hI ht;go_in
 go_wp2_with fail
 refine sC (yN b j p _ HF.1 HF.2) ?_;rintro w1 hw;subst w1;rw[HK.v,bF];go_wp2_with fail
 refine cJ (λW=>eC W b {p with tk:=Bd.ov p.tk j bA}/\bG b w W/\Bd.yo {p with tk:=Bd.ov p.tk j bA} j 7 (Bd.kL p j)) S0.v ?_;intro W1 h1;have S1:=hJ h1;clear h1 S0 c0 cf0;go_loopw [1] (λs wr=>∃(i n:Nat) (q:P),s=aa az i/\n<=7/\Hid (eC wr b q/\bG b w wr/\Bd.yo q i n (Bd.kL p j))) (λs wr=>6-qg wr b ((intOf s).toNat*2+1))
 case atStart=>exact⟨j,7,_,rfl,bB,S1⟩
 case round=>
  clear S1;obtain⟨i,n,q,rfl,hn7,S⟩:=hrel;have hi:=S.2.2.lt;have CC:=hJ (S.1.wL i hi);cases fr:Bd.fX q i
  .have FR:=hJ fr;have EQ:Hid (q=Bd.kL p j):=hJ (by rw[<-S.2.2.eq,Bd.Oj fr]);clear fr;go_wp2_with fail
   refine sC (yM b i q _ S.1 S.2.2.inv hi S.2.2.pos) ?_;rintro w2 ⟨nq,hw2⟩;have T:Hid (eC w2 b q/\bG b w w2):=hJ (by rw[hw2];exact⟨S.1.drewN nq,S.2.1.drewN nq⟩);clear hw2;rw[FR.v];go_wp2
   go_ret
   exact⟨rfl,by rw[<-EQ.v];exact T.1,T.2⟩
  .have FR:=hJ fr;have lt7:q.ord i<7:=by
    unfold Bd.fX at fr;simp only[Bool.and_eq_true,decide_eq_true_eq]at fr;exact fr.1
   obtain⟨m,rfl⟩:∃m,n=m+1:=⟨n-1,by have:=S.2.2.fu;omega⟩;have GN:=hJ (S.2.2.next fr);have L7:=hJ lt7;have JO:=hJ (by
    have f:=fr;unfold Bd.fX at f;simp only[Bool.and_eq_true,decide_eq_true_eq,Bool.not_eq_true']at f;exact(S.2.2.inv.join hi S.2.2.pos f.1 S.2.2.tk f.2.1 f.2.2).2.2.1)
   clear fr lt7;go_wp2_with fail
   refine sC (yM b i q _ S.1 S.2.2.inv hi S.2.2.pos) ?_;rintro w2 ⟨nq,hw2⟩;have T:Hid (eC w2 b q/\bG b w w2):=hJ (by rw[hw2];exact⟨S.1.drewN nq,S.2.1.drewN nq⟩);clear hw2;rw[FR.v];go_wp2_with fail
   refine sC (Ka b i q _ T.1 S.2.2.inv hi S.2.2.pos S.2.2.tk FR.v) ?_;rintro w3 ⟨t3,f3⟩;have T3:=hJ (aK t3 (T.2.trans f3));clear t3 f3;obtain⟨lo,hlo⟩:=hU (min i (Bd.db i (Bd.sz (q.ord i))));rw[hlo];rw[hlo]at T3 GN JO;have CN:Hid (qg w3 b (lo*2+1)=q.ord i):=hJ (ta (by
    rw[T3.1.wL lo GN.lt];unfold Bd.od;rw[JO.v];rfl))
   clear hlo;go_wp2
   go_roundw
   case rel=>exact⟨lo,m,_,by first|rfl|trivial,bB,T3.1,T3.2,GN.v⟩
   case measure=>
    simp only[intOf,hZ];rw[CN.v,ta CC.v];have:=L7.v;have:=S.2.2.pos;show _<6-(q.ord i-1);omega
theorem J5(b:Nat)(z:Int)(p:P)(w:bD)(h:eC w b p)(hI:Bd.Inv p):
  Calls prog 271 #[ai (bj ⟨b,0,bu⟩),aa az z] w λe w'=>e=bf (bN (Bd.ix p z))/\eC w' b (Bd.lE p z)/\bG b w w':=by
 by_cases k:Bd.ix p z=0
 .have k':=k;unfold Bd.ix at k';by_cases c1:z<0\/63<z
  .rw[aJ c1]at k';omega
  .rw[aI c1]at k';obtain⟨j,rfl⟩:=aG (show 0<=z by omega);rw[hZ]at k';have ht:p.tk j=bw:=by
    cases t:p.tk j
    .rw[t,aI bE]at k';omega
    .rfl
   refine sC (Nt b j p w h hI bB ht) ?_;rintro w' ⟨h1,h2⟩;unfold Bd.lE;rw[k,aJ rfl,hZ];exact⟨rfl,h1,h2⟩
 .refine sC (Fq b z p w h hI k) ?_;rintro w' rfl;unfold Bd.lE;rw[aI k];exact⟨rfl,h,bG.refl _ _⟩
