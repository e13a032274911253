import Derived.Test.YtpmmdkcfenjiaaaGreatDoorXab
set_option maxRecDepth 100000
set_option maxHeartbeats 1000000
set_option linter.unusedVariables false
set_option linter.unusedSimpArgs false
namespace Go.Proofs.YtpmmdkcfenjiaaaGreatDoor
open Value renaming int->aa,pointer->ai,slice->aj,tuple->ao,bool->ar,agg->au
open IntKind renaming i64->bf
open Ending renaming returned->bw
open Obj renaming cells->bA
open Option renaming some->bB,none->bC
open Bool renaming true->bE,false->bF
open Tryz (prog)
variable {p z:Int}{L:List Nat}{b b2 b3 i k m n x y:Nat}{d:Nat->Nat}{w:bD}
namespace Sp
structure T where
 here:Nat->Bool
 par:Nat->Int
 cD:Nat->Nat->Nat
 of:Nat->Nat
def vE(t:T):Nat->Int->List Nat
 |0,_=>[]
 |k+1,z=>if z<0 then[]else z.toNat::vE t k (t.par z.toNat)
def W(t:T)(z:Int):List Nat:=vE t 6 z
structure Tree (t:T)(d:Nat->Nat):Prop where
 root:t.here 0=bE/\t.par 0= -1/\d 0=1
 up:∀n,0<n->n<6->t.here n=bE->∃p:Nat,p<6/\t.par n=(p:Int)/\t.here p=bE/\d n=d p+1
 le:∀n,n<6->t.here n=bE->1<=d n/\d n<=4
section
variable {t:T}{d:Nat->Nat}
theorem oQ(t:T)(k:Nat)(z:Int)(h:z<0):vE t k z=[]:=by cases k<;>simp[vE,h]
theorem sL(t:T)(k n:Nat):vE t (k+1) (n:Int)=n::vE t k (t.par n):=by
 simp only[vE];rw[nJ,hZ]
theorem Tree.ix(h:Tree t d)(hn:n<6)(hh:t.here n=bE):(n=0/\t.par n= -1/\d n=1)\/∃p:Nat,p<6/\t.par n=(p:Int)/\t.here p=bE/\d n=d p+1:=by
 by_cases e:n=0
 .subst e;exact .inl ⟨rfl,h.root.2⟩
 .exact .inr (h.up n bG hn hh)
theorem Tree.Md(h:Tree t d):∀(k n:Nat),n<6->t.here n=bE->d n<=k->vE t (k+1) (n:Int)=vE t k (n:Int)
 |0,n,hn,hh,hk=>aZ (h.le n hn hh).1 bG
 |k+1,n,hn,hh,hk=>by
  rw[sL,sL];rcases h.ix hn hh with⟨_,e,_⟩|⟨p,h1,e,h2,h3⟩
  .rw[e,oQ _ _ _ bG,oQ _ _ _ bG]
  .rw[e,h.Md k p h1 h2 bG]
theorem Tree.step(h:Tree t d)(hn:n<6)(hh:t.here n=bE):W t (n:Int)=n::W t (t.par n):=by
 unfold W;rw[sL];rcases h.ix hn hh with⟨_,e,_⟩|⟨p,h1,e,h2,h3⟩
 .rw[e,oQ _ _ _ bG,oQ _ _ _ bG]
 .rw[e,h.Md 5 p h1 h2 (by have:=(h.le n hn hh).2;omega)]
theorem pT(t:T)(z:Int)(h:z<0):W t z=[]:=oQ t 6 z h
theorem Tree.ind(h:Tree t d){P:Nat->Prop}(hP:∀n,n<6->t.here n=bE->(∀p:Nat,p<6->t.here p=bE->t.par n=(p:Int)->d n=d p+1->P p)->P n):∀n,n<6->t.here n=bE->P n:=by
 have:∀k n,d n<=k->n<6->t.here n=bE->P n:=by
  intro k
  induction k with
  |zero=>intro n h1 h2 h3;have:=(h.le n h2 h3).1;omega
  |succ k ih=>intro n h1 h2 h3;exact hP n h2 h3 (λp p1 p2 _ p4=>ih p bG p1 p2)
 exact λn=>this (d n) n (aL _)
theorem Tree.len(h:Tree t d)(hn:n<6)(hh:t.here n=bE):(W t (n:Int)).length=d n:=by
 refine h.ind (P:=λn=>(W t (n:Int)).length=d n) (λn hn hh ih=>?_) n hn hh;show(W t (n:Int)).length=d n;rw[h.step hn hh];rcases h.ix hn hh with⟨_,e,e2⟩|⟨p,h1,e,h2,h3⟩
 .rw[e,pT _ _ bG,e2];rfl
 .rw[e,List.length_cons,ih p h1 h2 e h3,h3]
theorem Tree.mem(h:Tree t d)(hn:n<6)(hh:t.here n=bE):∀x,x∈W t (n:Int)->x<6/\t.here x=bE/\d x<=d n:=by
 refine h.ind (P:=λn=>∀x,x∈W t (n:Int)->x<6/\t.here x=bE/\d x<=d n) (λn hn hh ih=>?_) n hn hh;intro x hx;rw[h.step hn hh]at hx;rcases List.mem_cons.1 hx with e|hx
 .subst e;exact⟨hn,hh,aL _⟩
 .rcases h.ix hn hh with⟨_,e,e2⟩|⟨p,h1,e,h2,h3⟩
  .rw[e,pT _ _ bG]at hx;cases hx
  .rw[e]at hx;have:=ih p h1 h2 e h3 x hx;exact⟨this.1,this.2.1,bG⟩
theorem Tree.nodup(h:Tree t d)(hn:n<6)(hh:t.here n=bE):(W t (n:Int)).Nodup:=by
 refine h.ind (P:=λn=>(W t (n:Int)).Nodup) (λn hn hh ih=>?_) n hn hh;show(W t (n:Int)).Nodup;rw[h.step hn hh];rcases h.ix hn hh with⟨_,e,e2⟩|⟨p,h1,e,h2,h3⟩
 .rw[e,pT _ _ bG];simp
 .rw[e,List.nodup_cons];exact⟨λhm=>by have:=(h.mem h1 h2 n hm).2.2;omega,ih p h1 h2 e h3⟩
theorem yr{t t':T}(h:Tree t d)(hp:∀n,n<6->t.here n=bE->t'.par n=t.par n)(hn:n<6)(hh:t.here n=bE):W t' (n:Int)=W t (n:Int):=by
 have:∀k n,n<6->t.here n=bE->vE t' k (n:Int)=vE t k (n:Int):=by
  intro k
  induction k with
  |zero=>intro n _ _;rfl
  |succ k ih=>
   intro n hn hh;rw[sL,sL,hp n hn hh];rcases h.ix hn hh with⟨_,e,_⟩|⟨p,h1,e,h2,h3⟩
   .rw[e,oQ _ _ _ bG,oQ _ _ _ bG]
   .rw[e,ih p h1 h2]
 exact this 6 n hn hh
end
structure Inv (t:T)(d:Nat->Nat):Prop where
 tree:Tree t d
 no:∀n,n<6->t.here n=bF->t.par n=0
 qQ:∀n,n<6->t.cD n 0=0
 qR:∀n p,n<6->p<21->t.cD n p<=20
 one:∀n p q,n<6->p<21->q<21->t.cD n p=t.cD n q->t.cD n p≠0->p=q
 has:∀n x,n<6->x<20->((∃p,p<21/\t.cD n p=x+1)↔(t.of x≠0/\n∈W t ((t.of x-1:Nat):Int)))
 pB:∀x,x<20->t.of x≠0->t.of x<=6/\t.here (t.of x-1)=bE
def cQ(t:T)(z:Int):Int:=if z<0\/6<=z then 1 else if t.here z.toNat=bE then 0 else 2
def lB(z:Int):Int:=if z<0\/20<=z then 1 else 0
def fM(t:T):Nat:=((List.range 6).find? (λn=> !t.here n)).getD 6
def iN(t:T)(z:Int):Int:=if cQ t z=0 then(if 4<=(W t z).length then 7 else if fM t=6 then 4 else 0)else cQ t z
def nL(t:T)(z:Int):Nat:=if iN t z=0 then fM t else 0
def tZ(f:Nat->Nat)(i v:Nat):Nat->Nat:=λj=>if j=i then v else f j
def gE(f:Nat->Int)(i:Nat)(v:Int):Nat->Int:=λj=>if j=i then v else f j
def nF(f:Nat->Bool)(i:Nat)(v:Bool):Nat->Bool:=λj=>if j=i then v else f j
def gm(t:T)(z:Int):T:=if iN t z=0 then{t with here:=nF t.here (fM t) bE,par:=gE t.par (fM t) z}else t
def jF(t:T)(n p:Nat):Bool:=decide (t.cD n p≠0)
def gd(t:T)(n:Nat):List Nat:=((List.range 21).filter (jF t n)).map (λp=>t.cD n p-1)
def uK(t:T)(n k:Nat):Bool:=t.here k&&decide (t.par k=(n:Int))
def kids(t:T)(n:Nat):Bool:=(List.range 6).any (uK t n)
def jj(t:T)(z:Int):Int:=if cQ t z=0 then(if z=0\/gd t z.toNat≠[]\/kids t z.toNat=bE then 5 else 0)else cQ t z
def gP(t:T)(z:Int):T:=if jj t z=0 then{t with here:=nF t.here z.toNat bF,par:=gE t.par z.toNat 0}else t
def uS(t:T)(n p:Nat):Bool:=decide (1<=p)&&decide (t.cD n p=0)
def low(t:T)(n:Nat):Nat:=((List.range 21).find? (uS t n)).getD 0
def iX(t:T)(z x:Int):Int:=if cQ t z=0 then lB x else cQ t z
def mr(t:T)(z x:Int):Int:=if iX t z x=0 then(if t.of x.toNat=0 then 0 else 3)else iX t z x
def DU(t:T)(L:List Nat)(x:Nat):T:={t with cD:=λn p=>if n∈L/\p=low t n then x+1 else t.cD n p}
def fO(t:T)(z x:Int):T:=if mr t z x=0 then{DU t (W t z) x.toNat with of:=tZ t.of x.toNat (z.toNat+1)}else t
def tV(t:T)(n x p:Nat):Bool:=decide (t.cD n p=x+1)
def iE(t:T)(n x:Nat):Nat:=((List.range 21).find? (tV t n x)).getD 0
def uH(t:T)(z x:Int):Nat:=if mr t z x=0 then iE (fO t z x) z.toNat x.toNat else 0
def mi(t:T)(x:Int):Int:=if lB x=0 then(if t.of x.toNat=0 then 2 else 0)else lB x
def dV(t:T)(x:Int):Nat:=if mi t x=0 then t.of x.toNat-1 else 0
def z7(t:T)(L:List Nat)(x:Nat):T:={t with cD:=λn p=>if n∈L/\t.cD n p=x+1 then 0 else t.cD n p}
def dP(t:T)(x:Int):T:=if mi t x=0 then{z7 t (List.range 6) x.toNat with of:=tZ t.of x.toNat 0}else t
def xC(t:T)(x z:Int):Int:=if iX t z x=0 then(if iE t z.toNat x.toNat=0 then 2 else 0)else iX t z x
def mA(t:T)(x z:Int):Nat:=if xC t x z=0 then iE t z.toNat x.toNat else 0
def gF(t:T)(z p:Int):Int:=if cQ t z=0 then(if p<1\/20<p\/t.cD z.toNat p.toNat=0 then 2 else 0)else cQ t z
def eV(t:T)(z p:Int):Nat:=if gF t z p=0 then t.cD z.toNat p.toNat-1 else 0
def t0:T:=⟨λn=>decide (n=0),λn=>if n=0 then -1 else 0,λ_ _=>0,λ_=>0⟩
theorem lU{P:Nat->Bool}(h:(List.range n).find? P=bB i):i<n/\P i=bE/\∀j,j<i->P j=bF:=by
 obtain⟨h1,L,M,h2,h3⟩:=List.find?_eq_some_iff_append.1 h;have hi:i<n:=by have:=List.mem_of_find?_eq_some h;simpa using this
 refine⟨hi,h1,λj hj=>?_⟩;have hl:L.length=i:=by
  have e1:(List.range n)[L.length]? =bB i:=by rw[h2];simp
  rw[List.getElem?_range (by have:=congrArg List.length h2;simp at this;omega)]at e1;exact Option.some.inj e1
 have hm:j∈L:=by
  have e:(List.range n)[j]? =L[j]? :=by rw[h2,List.getElem?_append_left bG]
  rw[List.getElem?_range bG]at e;exact bK e.symm
 have:=h3 j hm;simpa using this
theorem vX{P:Nat->Bool}(hi:i<n)(h:P i=bE)(hl:∀j,j<i->P j=bF):(List.range n).find? P=bB i:=by
 cases hf:(List.range n).find? P with
 |none=>
  have:=List.find?_eq_none.1 hf i (by simpa using hi);exact aZ h this
 |some k=>
  have:=lU hf;congr 1;by_cases e1:k<i
  .have:=hl k e1;rw[(lU hf).2.1]at this;cases this
  .by_cases e2:i<k
   .have:=(lU hf).2.2 i e2;rw[h]at this;cases this
   .omega
theorem Gl{P:Nat->Bool}(h:∀j,j<n->P j=bF):(List.range n).find? P=none:=by
 rw[List.find?_eq_none];intro j hj;rw[h j (by simpa using hj)];simp
theorem oD{t:T}(h:cQ t z=0):∃n:Nat,z=n/\n<6/\t.here n=bE:=by
 unfold cQ at h;by_cases k:z<0\/6<=z
 .rw[aJ k]at h;omega
 .obtain⟨n,rfl⟩:=aG (show 0<=z by omega);rw[aI k,hZ]at h;refine⟨n,rfl,bG,?_⟩;by_cases c:t.here n=bE
  .exact c
  .rw[aI c]at h;omega
theorem iW{t:T}(hn:n<6)(hh:t.here n=bE):cQ t n=0:=by
 unfold cQ;rw[nJ,hZ,aJ hh]
theorem yT(h:lB z=0):∃n:Nat,z=n/\n<20:=by
 unfold lB at h;by_cases k:z<0\/20<=z
 .rw[aJ k]at h;omega
 .exact⟨z.toNat,bG,bG⟩
theorem rC(hn:n<20):lB n=0:=by unfold lB;rw[nJ]
theorem tD{t:T}{x:Int}(h:iX t z x=0):∃n k:Nat,z=n/\x=k/\n<6/\k<20/\t.here n=bE:=by
 unfold iX at h;by_cases k:cQ t z=0
 .rw[aJ k]at h;obtain⟨n,rfl,h1,h2⟩:=oD k;obtain⟨m,rfl,h3⟩:=yT h;exact⟨n,m,rfl,rfl,h1,h3,h2⟩
 .rw[aI k]at h;exact aZ h k
theorem Nn{t:T}(h:fM t≠6):fM t<6/\t.here (fM t)=bF/\∀j,j<fM t->t.here j=bE:=by
 unfold fM at*;cases hf:(List.range 6).find? (λn=> !t.here n)with
 |none=>rw[hf]at h;exact aZ rfl h
 |some k=>
  have:=lU hf;refine⟨this.1,?_,λj hj=>?_⟩
  .have:=this.2.1;simpa using this
  .have:=this.2.2 j hj;simpa using this
theorem Nl{t:T}(hn:n<6)(h:t.here n=bF)(hl:∀j,j<n->t.here j=bE):fM t=n:=by
 unfold fM;rw[vX (P:=λn=> !t.here n) hn (by simp[h]) (λj hj=>by simp[hl j hj])];rfl
theorem No{t:T}(hl:∀j,j<6->t.here j=bE):fM t=6:=by
 unfold fM;rw[Gl (P:=λn=> !t.here n) (λj hj=>by simp[hl j hj])];rfl
theorem pf{t:T}(h:iN t z=0):∃n:Nat,z=n/\n<6/\t.here n=bE/\(W t z).length<4/\fM t<6/\t.here (fM t)=bF/\∀j,j<fM t->t.here j=bE:=by
 unfold iN at h;by_cases k:cQ t z=0
 .rw[aJ k]at h;obtain⟨n,rfl,h1,h2⟩:=oD k;by_cases c:4<=(W t n).length
  .rw[aJ c]at h;omega
  .rw[aI c]at h;by_cases f:fM t=6
   .rw[aJ f]at h;omega
   .exact⟨n,rfl,h1,h2,bG,Nn f⟩
 .rw[aI k]at h;exact aZ h k
theorem zl:Tree t0 (λ_=>1):=by
 refine⟨⟨rfl,rfl,rfl⟩,λn h0 _ hh=>?_,λn _ _=>⟨by omega,bG⟩⟩;simp[t0]at hh;omega
theorem xp:Inv t0 (λ_=>1):=by
 refine⟨zl,λn _ hh=>?_,λ_ _=>rfl,λ_ _ _ _=>aC _,λ_ _ _ _ _ _ _ h=>aZ rfl h,λn x _ _=>⟨λ⟨p,_,h⟩=>?_,λ⟨h,_⟩=>aZ rfl h⟩,λx _ h=>aZ rfl h⟩
 .simp[t0]at hh|-;exact λe=>aZ e hh
 .simp[t0]at h
theorem Inv.dead{t:T}(h:Inv t d){p:Nat}(hn:n<6)(hp:p<21)(hh:t.here n=bF):t.cD n p=0:=by
 by_cases e:t.cD n p=0
 .exact e
 .have hl:=h.qR n p hn hp;have:=(h.has n (t.cD n p-1) hn bG).1 ⟨p,hp,bG⟩;have o:=h.pB (t.cD n p-1) bG this.1;have:=(h.tree.mem bG o.2 n this.2).2.1;rw[hh]at this;cases this
end Sp
namespace Sp
section
variable {t:T}{d:Nat->Nat}
theorem Inv.add(h:Inv t d)(z:Int):∃d',Inv (gm t z) d':=by
 unfold gm;by_cases k:iN t z=0
 .rw[aJ k];obtain⟨n,rfl,hn,hh,hl,hf,hfh,_⟩:=pf k;rw[h.tree.len hn hh]at hl;generalize fM t=f at*;have fn:n≠f:=λe=>by rw[e,hfh]at hh;cases hh
  have f0:f≠0:=λe=>by rw[e,h.tree.root.1]at hfh;cases hfh
  have nf:∀m,t.here m=bE->m≠f:=λm hm e=>by rw[e,hfh]at hm;cases hm
  obtain⟨t',et⟩:∃t':T,{t with here:=nF t.here f bE,par:=gE t.par f n}=t':=⟨_,rfl⟩;have eh:∀m,t'.here m=if m=f then bE else t.here m:=λm=>by rw[<-et];rfl
  have ep:∀m,t'.par m=if m=f then(n:Int)else t.par m:=λm=>by rw[<-et];rfl
  have ew:t'.cD=t.cD:=by rw[<-et]
  have eo:t'.of=t.of:=by rw[<-et]
  have hw:∀m,m<6->t.here m=bE->W t' (m:Int)=W t (m:Int):=λm hm hmh=>yr h.tree (λm hm hh=>by rw[ep,aI (nf m hh)]) hm hmh;rw[et];refine⟨λm=>if m=f then d n+1 else d m,⟨⟨?_,λm m0 hm hmh=>?_,λm hm hmh=>?_⟩,λm hm hmh=>?_,by rw[ew];exact h.qQ,by rw[ew];exact h.qR,by rw[ew];exact h.one,λm x hm hx=>?_,λx hx hx0=>?_⟩⟩
  .refine⟨?_,?_,?_⟩
   .rw[eh];split
    .rfl
    .exact h.tree.root.1
   .rw[ep,aI (bQ f0)];exact h.tree.root.2.1
   .show(if 0=f then d n+1 else d 0)=1;rw[aI (bQ f0)];exact h.tree.root.2.2
  .show∃p:Nat,p<6/\t'.par m=(p:Int)/\t'.here p=bE/\(if m=f then d n+1 else d m)=(if p=f then d n+1 else d p)+1;by_cases e:m=f
   .subst e;refine⟨n,hn,by rw[ep,aJ rfl],by rw[eh,aI fn];exact hh,by rw[aJ rfl,aI fn]⟩
   .rw[eh,aI e]at hmh;obtain⟨p,p1,p2,p3,p4⟩:=h.tree.up m m0 hm hmh;grind
  .show 1<=(if m=f then d n+1 else d m)/\(if m=f then d n+1 else d m)<=4;by_cases e:m=f
   .rw[aJ e];omega
   .rw[aI e];rw[eh,aI e]at hmh;exact h.tree.le m hm hmh
  .rw[eh]at hmh;by_cases e:m=f
   .rw[aJ e]at hmh;cases hmh
   .rw[aI e]at hmh;rw[ep,aI e];exact h.no m hm hmh
  .rw[ew,eo,h.has m x hm hx];constructor
   .rintro⟨h1,h2⟩;have o:=h.pB x hx h1;exact⟨h1,by rw[hw _ bG o.2];exact h2⟩
   .rintro⟨h1,h2⟩;have o:=h.pB x hx h1;exact⟨h1,by rw[hw _ bG o.2]at h2;exact h2⟩
  .rw[eo]at hx0|-;have o:=h.pB x hx hx0;exact⟨o.1,by rw[eh];split;rfl;exact o.2⟩
 .rw[aI k];exact⟨d,h⟩
theorem DI(h:gd t n=[])(p:Nat)(hp:p<21):t.cD n p=0:=by
 have h1:=List.map_eq_nil_iff.1 h;have:=List.filter_eq_nil_iff.1 h1 p (by simpa using hp);simpa[jF]using this
theorem QU(h:kids t n=bF)(k:Nat)(hk:k<6)(hh:t.here k=bE):t.par k≠(n:Int):=λe=>by
 have:kids t n=bE:=by unfold kids;rw[List.any_eq_true];exact⟨k,by simpa using hk,by unfold uK;rw[hh,e];simp⟩
 grind
theorem Hy(h:jj t z=0):∃n:Nat,z=n/\n≠0/\n<6/\t.here n=bE/\gd t n=[]/\kids t n=bF:=by grind [jj,cQ,gd,kids]
theorem Inv.drop(h:Inv t d)(z:Int):Inv (gP t z) d:=by
 unfold gP;by_cases k:jj t z=0
 .rw[aJ k];obtain⟨f,rfl,f0,hf,hfh,hm,hk⟩:=Hy k;rw[hZ];obtain⟨t',et⟩:∃t':T,{t with here:=nF t.here f bF,par:=gE t.par f 0}=t':=⟨_,rfl⟩;have eh:∀m,t'.here m=if m=f then bF else t.here m:=λm=>by rw[<-et];rfl
  have ep:∀m,t'.par m=if m=f then(0:Int)else t.par m:=λm=>by rw[<-et];rfl
  have ew:t'.cD=t.cD:=by rw[<-et]
  have eo:t'.of=t.of:=by rw[<-et]
  rw[et];have pn:∀m p:Nat,m<6->t.here m=bE->t.par m=(p:Int)->p≠f:=λm p hm hh e c=>QU hk m hm hh (by rw[e,c]);have tr:Tree t' d:=by
   refine⟨⟨by rw[eh,aI (bQ f0)];exact h.tree.root.1,by rw[ep,aI (bQ f0)];exact h.tree.root.2.1,h.tree.root.2.2⟩,λm m0 hm' hmh=>?_,λm hm' hmh=>?_⟩
   .rw[eh]at hmh;by_cases e:m=f
    .rw[aJ e]at hmh;cases hmh
    .rw[aI e]at hmh;obtain⟨p,p1,p2,p3,p4⟩:=h.tree.up m m0 hm' hmh;exact⟨p,p1,by rw[ep,aI e];exact p2,by rw[eh,aI (pn m p hm' hmh p2)];exact p3,p4⟩
   .rw[eh]at hmh;by_cases e:m=f
    .rw[aJ e]at hmh;cases hmh
    .rw[aI e]at hmh;exact h.tree.le m hm' hmh
  have hw:∀m,m<6->t'.here m=bE->W t (m:Int)=W t' (m:Int):=λm hm' hmh=>yr tr (λk hk' hkh=>by
   rw[eh]at hkh;by_cases e:k=f
   .rw[aJ e]at hkh;cases hkh
   .rw[ep,aI e]) hm' hmh
  have of:∀x,x<20->t.of x≠0->t.of x-1≠f:=λx hx hx0 e=>by
   have o:=h.pB x hx hx0;have:t.of x-1∈W t ((t.of x-1:Nat):Int):=by rw[h.tree.step bG o.2];simp
   obtain⟨p,hp,hw⟩:=(h.has (t.of x-1) x bG hx).2 ⟨hx0,this⟩;rw[e,DI hm p hp]at hw;omega
  refine⟨tr,λm hm' hmh=>?_,by rw[ew];exact h.qQ,by rw[ew];exact h.qR,by rw[ew];exact h.one,λm x hm' hx=>?_,λx hx hx0=>?_⟩
  .rw[eh]at hmh;by_cases e:m=f
   .rw[ep,aJ e]
   .rw[aI e]at hmh;rw[ep,aI e];exact h.no m hm' hmh
  .rw[ew,eo,h.has m x hm' hx];constructor
   .rintro⟨h1,h2⟩;have o:=h.pB x hx h1;exact⟨h1,by rw[<-hw _ bG (by rw[eh,aI (of x hx h1)];exact o.2)];exact h2⟩
   .rintro⟨h1,h2⟩;have o:=h.pB x hx h1;grind
  .rw[eo]at hx0|-;have o:=h.pB x hx hx0;exact⟨o.1,by rw[eh,aI (of x hx hx0)];exact o.2⟩
 .rw[aI k];exact h
theorem uN:∀(l m:List Nat),l.Nodup->(∀x∈l,x∈m)->l.length<=m.length
 |[],_,_,_=>aC _
 |a::t,m,hn,hs=>by
  have hn':=List.nodup_cons.1 hn;have:=uN t (m.erase a) hn'.2 (λx hx=>(List.mem_erase_of_ne (show x≠a from λe=>hn'.1 (by rw[<-e];exact hx))).2 (hs x (by simp[hx])));grind
theorem Inv.room(h:Inv t d)(hx:x<20)(h0:t.of x=0)(hn:n<6):∃p,1<=p/\p<21/\t.cD n p=0:=by
 refine Classical.byContradiction λhc=>?_;have hne:∀p,p<20->t.cD n (p+1)≠0:=λp hp e=>hc ⟨p+1,bG,bG,e⟩;have hl:((List.range 20).map (λp=>t.cD n (p+1)-1)).Nodup:=by
  rw[List.nodup_iff_pairwise_ne,List.pairwise_map];refine List.Pairwise.imp_of_mem ?_ (List.nodup_iff_pairwise_ne.1 List.nodup_range);intro a b ha hb hab e;have ha':a<20:=by simpa using ha
  have hb':b<20:=by simpa using hb
  have a0:=hne a ha';have b0:=hne b hb';have:=h.one n (a+1) (b+1) hn bG bG bG a0;omega
 have hs:∀y∈(List.range 20).map (λp=>t.cD n (p+1)-1),y∈(List.range 20).erase x:=by
  intro y hy;obtain⟨a,ha,rfl⟩:=List.mem_map.1 hy;have ha':a<20:=by simpa using ha
  have a0:=hne a ha';have al:=h.qR n (a+1) hn bG;rw[List.Nodup.mem_erase_iff List.nodup_range];refine⟨λe=>?_,by simp;omega⟩;have:=(h.has n x hn hx).1 ⟨a+1,bG,bG⟩;exact this.1 h0
 have hlen:=uN _ _ hl hs;grind
theorem Inv.low(h:Inv t d){x n:Nat}(hx:x<20)(h0:t.of x=0)(hn:n<6):1<=Sp.low t n/\Sp.low t n<21/\t.cD n (Sp.low t n)=0/\∀q,1<=q->q<Sp.low t n->t.cD n q≠0:=by
 obtain⟨p,p1,p2,p3⟩:=h.room hx h0 hn;unfold Sp.low;cases hf:(List.range 21).find? (uS t n)with
 |none=>
  have:=List.find?_eq_none.1 hf p (by simpa using p2);exact aZ (by unfold uS;rw[p3];simp;omega) this
 |some k=>
  have:=lU hf;have h1:=this.2.1;unfold uS at h1;simp at h1;refine⟨h1.1,this.1,h1.2,λq q1 q2 e=>?_⟩;unfold uS at this;grind
theorem Tg{p:Nat}(p1:1<=p)(p2:p<21)(h:t.cD n p=0)(hl:∀q,1<=q->q<p->t.cD n q≠0):Sp.low t n=p:=by
 unfold Sp.low;rw[vX p2 (by unfold uS;rw[h];simp;omega) (λq hq=>by
  unfold uS;by_cases e:1<=q
  .grind
  .simp[e])]
 rfl
theorem JY{x:Int}(h:mr t z x=0):∃n k:Nat,z=n/\x=k/\n<6/\k<20/\t.here n=bE/\t.of k=0:=by grind [mr,iX,tD]
theorem Inv.enter(h:Inv t d)(z x:Int):Inv (fO t z x) d:=by
 unfold fO;by_cases k:mr t z x=0
 .rw[aJ k];obtain⟨n,y,rfl,rfl,hn,hy,hh,h0⟩:=JY k;rw[hZ,hZ];obtain⟨t',et⟩:∃t':T,{DU t (W t n) y with of:=tZ t.of y (n+1)}=t':=⟨_,rfl⟩;have eh:t'.here=t.here:=by rw[<-et];rfl
  have ep:t'.par=t.par:=by rw[<-et];rfl
  have ew:∀m p,t'.cD m p=if m∈W t n/\p=Sp.low t m then y+1 else t.cD m p:=λm p=>by rw[<-et];rfl
  have eo:∀u,t'.of u=if u=y then n+1 else t.of u:=λu=>by rw[<-et];rfl
  rw[et];have hw:∀m,m<6->t.here m=bE->W t' (m:Int)=W t (m:Int):=λm hm hmh=>yr h.tree (λk _ _=>by rw[ep]) hm hmh;have lw:∀m,m<6->_:=λm hm=>h.low (n:=m) hy h0 hm;have free:∀m p,m<6->p<21->t.cD m p≠y+1:=λm p hm hp e=>((h.has m y hm hy).1 ⟨p,hp,e⟩).1 h0;refine⟨⟨by rw[eh,ep];exact h.tree.root,by rw[eh,ep];exact h.tree.up,by rw[eh];exact h.tree.le⟩,by rw[eh,ep];exact h.no,λm hm=>?_,λm p hm hp=>?_,λm p q hm hp hq e e0=>?_,λm u hm hu=>?_,λu hu u0=>?_⟩
  .rw[ew,aI (λc=>by have:=(lw m hm).1;omega)];exact h.qQ m hm
  .rw[ew];split
   .omega
   .exact h.qR m p hm hp
  .rw[ew]at e e0;rw[ew m q]at e;by_cases c:m∈W t n/\p=Sp.low t m
   .rw[aJ c]at e e0;by_cases c2:m∈W t n/\q=Sp.low t m
    .rw[c.2,c2.2]
    .rw[aI c2]at e;exact aZ e.symm (free m q hm hq)
   .rw[aI c]at e e0;by_cases c2:m∈W t n/\q=Sp.low t m
    .rw[aJ c2]at e;exact aZ e (free m p hm hp)
    .rw[aI c2]at e;exact h.one m p q hm hp hq e e0
  .rw[eo];by_cases e:u=y
   .subst e;grind
   .rw[aI e];have hm':(∃p,p<21/\t'.cD m p=u+1)↔(∃p,p<21/\t.cD m p=u+1):=by
     constructor
     .rintro⟨p,hp,e2⟩;rw[ew]at e2;by_cases c:m∈W t n/\p=Sp.low t m
      .rw[aJ c]at e2;omega
      .rw[aI c]at e2;exact⟨p,hp,e2⟩
     .rintro⟨p,hp,e2⟩;refine⟨p,hp,?_⟩;rw[ew,aI (λc=>by rw[c.2,(lw m hm).2.2.1]at e2;omega)];exact e2
    rw[hm',h.has m u hm hu];constructor
    .rintro⟨h1,h2⟩;have o:=h.pB u hu h1;exact⟨h1,by rw[hw _ bG o.2];exact h2⟩
    .rintro⟨h1,h2⟩;have o:=h.pB u hu h1;exact⟨h1,by rw[hw _ bG o.2]at h2;exact h2⟩
  .rw[eo]at u0|-;rw[eh];by_cases e:u=y
   .rw[aJ e];exact⟨by omega,by rw[aP];exact hh⟩
   .rw[aI e]at u0|-;exact h.pB u hu u0
 .rw[aI k];exact h
theorem Dh{x:Int}(h:mi t x=0):∃k:Nat,x=k/\k<20/\t.of k≠0:=by grind [mi,lB]
theorem Inv.leave(h:Inv t d)(x:Int):Inv (dP t x) d:=by
 unfold dP;by_cases k:mi t x=0
 .rw[aJ k];obtain⟨y,rfl,hy,h0⟩:=Dh k;rw[hZ];obtain⟨t',et⟩:∃t':T,{z7 t (List.range 6) y with of:=tZ t.of y 0}=t':=⟨_,rfl⟩;have eh:t'.here=t.here:=by rw[<-et];rfl
  have ep:t'.par=t.par:=by rw[<-et];rfl
  have ew:∀m p,m<6->t'.cD m p=if t.cD m p=y+1 then 0 else t.cD m p:=λm p hm=>by rw[<-et];simp[z7,hm]
  have eo:∀u,t'.of u=if u=y then 0 else t.of u:=λu=>by rw[<-et];rfl
  rw[et];have hw:∀m,m<6->t.here m=bE->W t' (m:Int)=W t (m:Int):=λm hm hmh=>yr h.tree (λk _ _=>by rw[ep]) hm hmh;refine⟨⟨by rw[eh,ep];exact h.tree.root,by rw[eh,ep];exact h.tree.up,by rw[eh];exact h.tree.le⟩,by rw[eh,ep];exact h.no,λm hm=>?_,λm p hm hp=>?_,λm p q hm hp hq e e0=>?_,λm u hm hu=>?_,λu hu u0=>?_⟩
  .rw[ew _ _ hm,h.qQ m hm];rfl
  .rw[ew _ _ hm];split
   .omega
   .exact h.qR m p hm hp
  .rw[ew _ _ hm]at e e0;rw[ew _ q hm]at e;by_cases c:t.cD m p=y+1
   .rw[aJ c]at e0;exact aZ rfl e0
   .rw[aI c]at e e0;by_cases c2:t.cD m q=y+1
    .rw[aJ c2]at e;exact aZ e e0
    .rw[aI c2]at e;exact h.one m p q hm hp hq e e0
  .rw[eo];by_cases e:u=y
   .subst e;rw[aJ rfl];constructor
    .rintro⟨p,hp,e⟩;rw[ew _ _ hm]at e;by_cases c:t.cD m p=u+1
     .rw[aJ c]at e;omega
     .rw[aI c]at e;exact aZ e c
    .rintro⟨c,_⟩;exact aZ rfl c
   .rw[aI e];have hm':(∃p,p<21/\t'.cD m p=u+1)↔(∃p,p<21/\t.cD m p=u+1):=by grind
    rw[hm',h.has m u hm hu];constructor
    .rintro⟨h1,h2⟩;have o:=h.pB u hu h1;exact⟨h1,by rw[hw _ bG o.2];exact h2⟩
    .rintro⟨h1,h2⟩;have o:=h.pB u hu h1;exact⟨h1,by rw[hw _ bG o.2]at h2;exact h2⟩
  .rw[eo]at u0|-;rw[eh];by_cases e:u=y
   .rw[aJ e]at u0;exact aZ rfl u0
   .rw[aI e]at u0|-;exact h.pB u hu u0
 .rw[aI k];exact h
end
end Sp
open Go.RowKit
open Sp (T)
def UX(c:Bool):TypeId:=if c then 181 else 100000
def cw(c h:Bool)(v:Nat):Int:=if c then(if h then(v:Int)-1 else 0)else v
def co(c:Bool)(v:Nat):Int:=if c then(v:Int)-1 else v
def kH(c:Bool)(t:T)(o:Nat):Value:=
 if o<138 then(if o%23=0 then ar (t.here (o/23))else if o%23=1 then aa bf (t.par (o/23))else aa bf (cw c (t.here (o/23)) (t.cD (o/23) (o%23-2))))else aa bf (co c (t.of (o-138)))
theorem dq(c:Bool)(t:T)(n:Nat)(hn:n<6):kH c t (n*23)=ar (t.here n):=by
 unfold kH;rw[nK,nK,show n*23/23=n by omega]
theorem dC(c:Bool)(t:T)(n:Nat)(hn:n<6):kH c t (n*23+1)=aa bf (t.par n):=by
 unfold kH;rw[nK,nJ,nK,show(n*23+1)/23=n by omega]
theorem dD(c:Bool)(t:T)(n p:Nat)(hn:n<6)(hp:p<21):kH c t (n*23+2+p)=aa bf (cw c (t.here n) (t.cD n p)):=by
 unfold kH;rw[nK,nJ,nJ,show(n*23+2+p)/23=n by omega,show(n*23+2+p)%23-2=p by omega]
theorem dY(c:Bool)(t:T)(x:Nat):kH c t (138+x)=aa bf (co c (t.of x)):=by
 unfold kH;rw[nJ,show 138+x-138=x by omega]
theorem gB{P:Nat->Prop}(h1:∀n,n<6->P (n*23))(h2:∀n,n<6->P (n*23+1))(h3:∀n p,n<6->p<21->P (n*23+2+p))(h4:∀x,x<20->P (138+x))(o:Nat)(ho:o<158):P o:=by
 by_cases a:o<138
 .by_cases r0:o%23=0
  .have:=h1 (o/23) bG;rwa [show o/23*23=o by omega]at this
  .by_cases r1:o%23=1
   .have:=h2 (o/23) bG;rwa [show o/23*23+1=o by omega]at this
   .have:=h3 (o/23) (o%23-2) bG bG;rwa [show o/23*23+2+(o%23-2)=o by omega]at this
 .have:=h4 (o-138) bG;rwa [show 138+(o-138)=o by omega]at this
structure Tb (c:Bool)(w:bD)(b:Nat)(t:T):Prop where
 dk:∃C,w.heap[b]? =bB (bA C (UX c) (0,0))/\C.size=158
 cell:∀o,o<158->w.cell? ⟨b,o,bC⟩=bB (kH c t o)
section
variable {c:Bool}{w w':bD}{b:Nat}{t t':T}
theorem Tb.drew(h:Tb c w b t):Tb c w.drew b t:=⟨h.dk,h.cell⟩
theorem Tb.frozen(h:Tb c w b t)(o:Nat):w.frozen? ⟨b,o,bC⟩=bF:=by obtain⟨C,h1,_⟩:=h.dk;exact cL h1 o
theorem Tb.lt(h:Tb c w b t):b<w.heap.size:=by obtain⟨C,h1,_⟩:=h.dk;exact(aX.1 h1).1
theorem Tb.same(h:Tb c w b t)(e:w'.heap[b]? =w.heap[b]?):Tb c w' b t:=⟨by rw[e];exact h.dk,λo ho=>(aV e).trans (h.cell o ho)⟩
theorem Tb.below(h:Tb c w b t)(k:Below w.heap.size w w'):Tb c w' b t:=h.same (k.block b h.lt)
theorem Tb.congr(h:Tb c w b t)(e:∀o,o<158->kH c t' o=kH c t o):Tb c w b t':=⟨h.dk,λo ho=>by rw[e o ho];exact h.cell o ho⟩
theorem Tb.Hq(h:Tb c w b t)(n:Nat)(hn:n<6):w.cell? ⟨b,n*23,bC⟩=bB (ar (t.here n)):=by rw[h.cell _ bG,dq c t n hn]
theorem Tb.uA(h:Tb c w b t)(n:Nat)(hn:n<6):w.cell? ⟨b,n*23+1,bC⟩=bB (aa bf (t.par n)):=by rw[h.cell _ bG,dC c t n hn]
theorem Tb.Hr(h:Tb c w b t)(n p:Nat)(hn:n<6)(hp:p<21):w.cell? ⟨b,n*23+2+p,bC⟩=bB (aa bf (cw c (t.here n) (t.cD n p))):=by rw[h.cell _ bG,dD c t n p hn hp]
theorem Tb.Sd(h:Tb c w b t)(x:Nat)(hx:x<20):w.cell? ⟨b,138+x,bC⟩=bB (aa bf (co c (t.of x))):=by rw[h.cell _ bG,dY]
theorem Tb.O4(h:Tb bE w b t)(n p:Nat)(hn:n<6)(hp:p<21)(hh:t.here n=bE):w.cell? ⟨b,n*23+2+p,bC⟩=bB (aa bf ((t.cD n p:Int)-1)):=by rw[h.Hr n p hn hp,hh];rfl
theorem Tb.Pv(h:Tb bE w b t)(x:Nat)(hx:x<20):w.cell? ⟨b,138+x,bC⟩=bB (aa bf ((t.of x:Int)-1)):=by rw[h.Sd x hx];rfl
theorem Tb.set(h:Tb c w b t)(o:Nat)(ho:o<158)(v:Value)(hv:∀i,i<158->kH c t' i=if i=o then v else kH c t i):Tb c (w.setCell ⟨b,o,bC⟩ v) b t':=by
 obtain⟨C,h1,h2⟩:=h.dk;refine⟨⟨_,cT h1 _ v,by simpa using h2⟩,λi hi=>?_⟩;rw[hv i hi];by_cases e:i=o
 .subst e;rw[dH h1 _ v bG,aJ rfl]
 .rw[dw h1 _ _ v (bQ e),aI e];exact h.cell i hi
def L6(t:T)(n p v:Nat):T:={t with cD:=λa q=>if a=n/\q=p then v else t.cD a q}
theorem Tb.Lt(h:Tb c w b t)(n p v:Nat)(hn:n<6)(hp:p<21):Tb c (w.setCell ⟨b,n*23+2+p,bC⟩ (aa bf (cw c (t.here n) v))) b (L6 t n p v):=by
 refine h.set _ bG _ (gB (λm hm=>?_) (λm hm=>?_) (λm q hm hq=>?_) (λx hx=>?_))
 .rw[dq c _ m hm,dq c _ m hm,nJ];rfl
 .rw[dC c _ m hm,dC c _ m hm,nJ];rfl
 .rw[dD c _ m q hm hq,dD c _ m q hm hq];by_cases e:m=n/\q=p
  .obtain⟨rfl,rfl⟩:=e;rw[aJ rfl];simp[L6]
  .rw[nJ];simp[L6,e]
 .rw[dY,dY,nJ];rfl
theorem Tb.setOf(h:Tb c w b t)(x v:Nat)(hx:x<20):Tb c (w.setCell ⟨b,138+x,bC⟩ (aa bf (co c v))) b {t with of:=Sp.tZ t.of x v}:=by
 refine h.set _ bG _ (gB (λm hm=>?_) (λm hm=>?_) (λm q hm hq=>?_) (λy hy=>?_))
 .rw[dq c _ m hm,dq c _ m hm,nJ]
 .rw[dC c _ m hm,dC c _ m hm,nJ]
 .rw[dD c _ m q hm hq,dD c _ m q hm hq,nJ]
 .rw[dY,dY];by_cases e:y=x
  .subst e;rw[aJ rfl];simp[Sp.tZ]
  .rw[nJ];simp[Sp.tZ,e]
end
def eW(hh:Bool)(p:Int)(f:Nat->Int):Array Value:=((List.range 23).map λi=>if i=0 then ar hh else if i=1 then aa bf p else aa bf (f (i-2))).toArray
theorem fF(hh:Bool)(p:Int)(f:Nat->Int):(eW hh p f).size=23:=by simp[eW]
theorem sG(hh:Bool)(p:Int)(f:Nat->Int):(eW hh p f).toList.length=23:=by simp[eW]
theorem nX(hh:Bool)(p:Int)(f:Nat->Int)(i:Nat)(h:i<23):(eW hh p f)[i]? =bB (if i=0 then ar hh else if i=1 then aa bf p else aa bf (f (i-2))):=by simp[eW,h]
theorem sH(hh:Bool)(p:Int)(f:Nat->Int):(eW hh p f).all (·.oneCell')=bE:=by
 rw[Array.all_eq_true_iff_forall_mem];intro v hv;simp only[eW,List.mem_toArray,List.mem_map]at hv;obtain⟨i,_,rfl⟩:=hv;split
 .rfl
 .split<;>rfl
theorem Rw(hh:Bool)(p:Int)(f:Nat->Int)(i:Nat)(v:Int)(hi:i<21):(eW hh p f).setIfInBounds (2+i) (aa bf v)=eW hh p (Sp.gE f i v):=by
 apply bL;intro j;rcases Nat.lt_or_ge j 23 with hj|hj
 .rw[nX _ _ _ j hj];by_cases e:j=2+i
  .subst e;rw[aE (by rw[fF];omega),nJ,nJ];simp[Sp.gE]
  .rw[aU bG,nX _ _ _ j hj];by_cases e0:j=0
   .rw[aJ e0,aJ e0]
   .by_cases e1:j=1
    .rw[aI e0,aJ e1,aI e0,aJ e1]
    .rw[aI e0,aI e1,aI e0,aI e1];unfold Sp.gE;rw[nJ]
 .rw[aR (by simp[eW];omega),aR (by rw[fF];omega)]
section
variable {c:Bool}{w:bD}{b:Nat}{t t':T}
theorem Tb.there(h:Tb c w b t)(n:Nat)(hn:n<6)(k:Nat)(hk:k=23):w.there b (n*23) k:=by
 obtain⟨C,h1,h2⟩:=h.dk;intro j hj;exact⟨by rw[cA h1,Array.getElem?_eq_getElem bG];rfl,cL h1 _⟩
theorem Tb.store(h:Tb c w b t)(n:Nat)(hn:n<6)(hh:Bool)(p:Int)(f:Nat->Int):(storeCells ⟨b,n*23,bC⟩ (eW hh p f).toList).run prog w= .ok () (w.setCells b (n*23) (eW hh p f).toList):=by
 have ht:=h.there n hn 23 rfl;have hs:=sG hh p f;have:=run_storeCells_cells (P:=prog) b (n*23) (eW hh p f).toList 0 w
  (λj hj=>by simpa using(ht j bG).1) (λj hj=>by simpa using(ht j bG).2)
  (λv hv=>(Array.all_eq_true_iff_forall_mem.1 (sH hh p f)) v (by simpa using hv))
 simp only[Nat.add_zero]at this;exact this
theorem Tb.xK(h:Tb c w b t)(n:Nat)(hn:n<6)(hh:Bool)(p:Int)(f:Nat->Int)(g:Nat->Nat)(hf:∀q,q<21->f q=cw c hh (g q)):
  Tb c (w.setCells b (n*23) (eW hh p f).toList) b {t with here:=Sp.nF t.here n hh,par:=Sp.gE t.par n p,cD:=λa q=>if a=n then g q else t.cD a q}:=by
 obtain⟨C,h1,h2⟩:=h.dk;have ht:=h.there n hn 23 rfl;have hs:=sG hh p f;obtain⟨C',k1,k2⟩:=ed b (eW hh p f).toList (n*23) w C h1;have hin:∀j,j<23->(w.setCells b (n*23) (eW hh p f).toList).cell? ⟨b,n*23+j,bC⟩=(eW hh p f)[j]? :=λj hj=>by
  rw[aS b (eW hh p f).toList (n*23) w (λi hi=>(ht i bG).1) j bG,<-aM,aW bG]
 have hout:∀i,i<n*23\/n*23+23<=i->(w.setCells b (n*23) (eW hh p f).toList).cell? ⟨b,i,bC⟩=w.cell? ⟨b,i,bC⟩:=λi hi=>by
  refine aA b _ (n*23) w ⟨b,i,bC⟩ (λ_ _=>?_);rw[hs];exact hi
 refine⟨⟨C',k1,bG⟩,gB (λm hm=>?_) (λm hm=>?_) (λm q hm hq=>?_) (λy hy=>?_)⟩
 .rw[dq c _ m hm];by_cases e:m=n
  .subst e;have:=hin 0 bG;rw[nX _ _ _ 0 bG]at this;rw[Nat.add_zero]at this;rw[this];simp[Sp.nF]
  .rw[hout _ bG,h.Hq m hm];simp[Sp.nF,e]
 .rw[dC c _ m hm];by_cases e:m=n
  .subst e;rw[hin 1 bG,nX _ _ _ 1 bG];simp[Sp.gE]
  .rw[hout _ bG,h.uA m hm];simp[Sp.gE,e]
 .rw[dD c _ m q hm hq];by_cases e:m=n
  .subst e;rw[show m*23+2+q=m*23+(2+q)by omega,hin (2+q) bG,nX _ _ _ (2+q) bG,nJ,nJ,show 2+q-2=q by omega,hf q hq];simp[Sp.nF]
  .rw[hout _ bG,h.Hr m q hm hq];simp[Sp.nF,e]
 .rw[dY,hout _ bG,h.Sd y hy]
end
theorem e9(b:Nat)(z:Int)(t:T)(w:bD)(h:Tb bE w b t):Calls prog 136 #[ai (bB ⟨b,0,bC⟩),aa bf z] w λe w'=>e=bw (bS (Sp.cQ t z))/\w'=w:=by
 by_cases k:z<0\/6<=z
 .have e:Hid (Sp.cQ t z=1):=hJ (aJ k);by_cases h0:z<0
  .clear k;go_in
   go_wp2
   go_ret
   rw[e.v];exact⟨rfl,rfl⟩
  .have h1:decide (z<0)=bF:=by simp;omega
   have h2:6<=z:=bG
   go_in
   go_wp2
   go_ret
   rw[e.v];exact⟨rfl,rfl⟩
 .obtain⟨n,rfl⟩:=aG (show 0<=z by omega);have hn:n<6:=bG
  have h1:(n:Int)<6:=bG
  have h2:decide (6<=(n:Int))=bF:=by simp;omega
  have c0:=h.Hq n hn;cases hh:t.here n
  .have e:Hid (Sp.cQ t n=2):=hJ (by unfold Sp.cQ;rw[aI k,hZ,hh];rfl);rw[hh]at c0;go_in
   go_wp2
   go_ret
   rw[e.v];exact⟨rfl,rfl⟩
  .have e:Hid (Sp.cQ t n=0):=hJ (by unfold Sp.cQ;rw[aI k,hZ,hh];rfl);rw[hh]at c0;go_in
   go_wp2
   go_ret
   rw[e.v];exact⟨rfl,rfl⟩
theorem mP(z:Int)(w:bD):Calls prog 215 #[aa bf z] w λe w'=>e=bw (bS (Sp.lB z))/\w'=w:=by
 by_cases k:z<0\/20<=z
 .have e:Hid (Sp.lB z=1):=hJ (aJ k);by_cases h0:z<0
  .clear k;go_in
   go_wp2
   go_ret
   rw[e.v];exact⟨rfl,rfl⟩
  .have h1:decide (z<0)=bF:=by simp;omega
   have h2:20<=z:=bG
   go_in
   go_wp2
   go_ret
   rw[e.v];exact⟨rfl,rfl⟩
 .have e:Hid (Sp.lB z=0):=hJ (aI k);have h1:decide (z<0)=bF:=by simp;omega
  have h2:decide (20<=z)=bF:=by simp;omega
  go_in
  go_wp2
  go_ret
  rw[e.v];exact⟨rfl,rfl⟩
theorem kS(b:Nat)(z x:Int)(t:T)(w:bD)(h:Tb bE w b t):Calls prog 220 #[ai (bB ⟨b,0,bC⟩),aa bf z,aa bf x] w λe w'=>e=bw (bS (Sp.iX t z x))/\w'=w:=by
 have HF:=hJ h;by_cases k:Sp.cQ t z=0
 .have HK:=hJ k;have HE:Hid (Sp.iX t z x=Sp.lB x):=hJ (aJ k);go_in
  go_wp2_with fail
  refine sC (e9 b z t _ HF.v) ?_;rintro w1 hw;subst w1;rw[HK.v,bN];go_wp2_with fail
  refine sC (mP x _) ?_;rintro w1 hw;subst w1;go_wp2
  go_ret
  rw[HE.v];exact⟨rfl,rfl⟩
 .have HE:Hid (Sp.iX t z x=Sp.cQ t z):=hJ (aI k);have HN:=hJ k;go_in
  go_wp2_with fail
  refine sC (e9 b z t _ HF.v) ?_;rintro w1 hw;subst w1;rw[bP HN.v];go_wp2
  go_ret
  rw[HE.v,bP HN.v];exact⟨rfl,rfl⟩
theorem v7(n:Nat):((n:Int)== -1)=bF:=by simp
theorem po(b n:Nat)(t:T)(d:Nat->Nat)(w:bD)(h:Tb bE w b t)(hT:Sp.Tree t d)(hn:n<6)(hh:t.here n=bE):
  Calls prog 218 #[ai (bB ⟨b,0,bC⟩),aa bf n] w λe w'=>e=bw (aa bf (((Sp.W t n).length:Nat):Int))/\w'=w:=by
 have HF:=hJ h;have HT:=hJ hT;have HL:Hid ((Sp.W t n).length<=4):=hJ (by rw[hT.len hn hh];exact(hT.le n hn hh).2);have HH:=hJ hh;go_in
 go_wp2
 go_loopw [5,6] (λs i wr=>∃(k:Nat) (z:Int),s=aa bf k/\i=aa bf z/\wr=w/\Hid (k+(Sp.W t z).length=(Sp.W t n).length/\(z= -1\/∃m:Nat,z=m/\m<6/\t.here m=bE))) (λ_ i _=>(Sp.W t (intOf i)).length)
 case atStart=>exact⟨0,n,rfl,rfl,rfl,bG, .inr ⟨n,rfl,hn,HH.v⟩⟩
 case round=>
  obtain⟨k,z,rfl,rfl,hw,HN⟩:=hrel;subst wr;rcases HN.2 with rfl|⟨m,rfl,hm,hmh⟩
  .have HE:Hid (k=(Sp.W t n).length):=hJ (by have:=HN.1;rw[Sp.pT t (-1) bG]at this;simpa using this);go_wp2
   go_ret
   rw[<-HE.v];exact⟨rfl,rfl⟩
  .have HMH:=hJ hmh;have ST:=hJ (HT.step hm hmh);have PC:=hJ (HT.ix hm hmh);have c1:=HF.uA m hm;have hmI:(m:Int)<6:=bG
   have hne:=v7 m;have hk4:k<=4:=by have:=HN.1;have:=HL.v;omega
   go_wp2
   go_roundw
   case rel=>
    refine⟨k+1,t.par m,by go_num,by first|rfl|trivial,by first|rfl|trivial,?_,?_⟩
    .have:=HN.1;rw[ST.v,List.length_cons]at this;omega
    .rcases PC.v with⟨_,e,_⟩|⟨p,p1,p2,p3,_⟩
     .exact .inl e
     .exact .inr ⟨p,p2,p1,p3⟩
   case measure=>
    simp only[intOf];rw[ST.v,List.length_cons];omega
theorem DP(b:Nat)(x:Int)(t:T)(w:bD)(h:Tb bE w b t):Calls prog 137 #[ai (bB ⟨b,0,bC⟩),aa bf x] w λe w'=>e=bw (ao #[aa bf (Sp.dV t x:Int),bS (Sp.mi t x)])/\w'=w:=by
 by_cases k:Sp.lB x=0
 .have HK:=hJ k;obtain⟨n,rfl,hn⟩:=Sp.yT k;have hnI:(n:Int)<20:=bG
  have c:=h.Pv n hn;by_cases o:t.of n=0
  .have HE:Hid (Sp.mi t n=2):=hJ (by unfold Sp.mi;rw[aJ k,hZ,aJ o]);have HN:Hid (Sp.dV t n=0):=hJ (by unfold Sp.dV;rw[HE.v];rfl);rw[o]at c;have c':w.cell? ⟨b,138+n,bC⟩=bB (aa bf (-1)):=c;go_in
   go_wp2_with fail
   refine sC (mP _ _) ?_;rintro w1 hw;subst w1;rw[HK.v,bN];go_wp2
   go_ret2
   rw[HE.v,HN.v];exact⟨rfl,rfl⟩
  .have HE:Hid (Sp.mi t n=0):=hJ (by unfold Sp.mi;rw[aJ k,hZ,aI o]);have HN:Hid ((Sp.dV t n:Int)=(t.of n:Int)-1):=hJ (by unfold Sp.dV;rw[HE.v,aJ rfl,hZ];omega);obtain⟨v,hv⟩:=hU ((t.of n:Int)-1);have v0:(v== -1)=bF:=by simp;omega
   rw[hv]at c HN;go_in
   go_wp2_with fail
   refine sC (mP _ _) ?_;rintro w1 hw;subst w1;rw[HK.v,bN];go_wp2
   go_ret2
   rw[HE.v,HN.v];exact⟨rfl,rfl⟩
 .have HE:Hid (Sp.mi t x=Sp.lB x):=hJ (by unfold Sp.mi;rw[aI k]);have HN:Hid (Sp.dV t x=0):=hJ (by unfold Sp.dV;rw[HE.v,aI k]);have HW:=hJ k;go_in
  go_wp2_with fail
  refine sC (mP _ _) ?_;rintro w1 hw;subst w1;rw[bP HW.v];go_wp2
  go_ret2
  rw[HE.v,HN.v,bP HW.v];exact⟨rfl,rfl⟩
def R5(f:Nat->Int)(n:Nat)(v r:Int):Prop:=(∃i:Nat,i<n/\f i=v/\(∀j,j<i->f j≠v)/\r=i)\/((∀i,i<n->f i≠v)/\r= -1)
theorem Bb(b o n cap:Nat)(f:Nat->Int)(v:Int)(w:bD)(h:∀i,i<n->w.cell? ⟨b,o+i,bC⟩=bB (aa bf (f i)))(hn:n<=1000):
  Calls prog 268 #[aj (bB ⟨b,o,bC⟩) n cap,aa bf v] w λe w'=>∃r,e=bw (aa bf r)/\R5 f n v r/\w'=w:=by
 have H:=hJ h;go_in
 go_wp2
 go_loopw [8] (λi wr=>∃(k:Nat),i=aa bf k/\k<=n/\wr=w/\Hid (∀j,j<k->f j≠v)) (λi _=>n-(intOf i).toNat)
 case atStart=>exact⟨0,rfl,bG,rfl,λj hj=>bG⟩
 case round=>
  obtain⟨k,rfl,hk,hw,HN⟩:=hrel;subst wr;by_cases hlt:k<n
  .have hltI:(k:Int)<(n:Int):=bG
   have cc:=H.v k hlt;by_cases e:f k=v
   .have HE:=hJ e;rw[e]at cc;go_wp2
    go_ret
    exact⟨_,rfl, .inl ⟨k,hlt,HE.v,HN.v,rfl⟩,rfl⟩
   .have HE:=hJ e;generalize hf:f k=u at*;have HU:=hJ hf;have e1:(v==u)=bF:=by simp;exact λc=>HE.v c.symm
    go_wp2
    go_roundw
    case rel=>exact⟨k+1,by go_num,bG,by first|rfl|trivial,λj hj=>by
     by_cases c:j=k
     .rw[c,HU.v];exact HE.v
     .exact HN.v j bG⟩
    case measure=>simp[intOf];omega
  .have hltI:¬(k:Int)<(n:Int):=bG
   go_wp2
   go_ret
   exact⟨_,rfl, .inr ⟨λi hi=>HN.v i bG,rfl⟩,rfl⟩
theorem Tb.row(w:bD)(b n:Nat)(t:T)(h:Tb bE w b t)(hn:n<6)(hh:t.here n=bE):∀i,i<21->w.cell? ⟨b,n*23+2+i,bC⟩=bB (aa bf ((t.cD n i:Int)-1)):=λi hi=>h.O4 n i hn hi hh
def vb(t:T)(n x:Nat):Int:=if Sp.iE t n x=0 then -1 else(Sp.iE t n x:Int)
theorem Rf{t:T}{r:Int}(h0:t.cD n 0=0)(h:R5 (λi=>(t.cD n i:Int)-1) 21 x r):r=vb t n x:=by
 unfold vb Sp.iE;rcases h with⟨i,hi,e,hl,rfl⟩|⟨hl,rfl⟩
 .have e':(t.cD n i:Int)-1=x:=e;rw[Sp.vX (P:=Sp.tV t n x) hi (by unfold Sp.tV;simp;omega) (λj hj=>by have:(t.cD n j:Int)-1≠x:=hl j hj;unfold Sp.tV;simp;omega)];grind
 .rw[Sp.Gl (P:=Sp.tV t n x) (λj hj=>by have:(t.cD n j:Int)-1≠x:=hl j hj;unfold Sp.tV;simp;omega)];rfl
theorem An(b n x:Nat)(t:T)(w:bD)(h:Tb bE w b t)(hn:n<6)(hh:t.here n=bE)(h0:t.cD n 0=0):
  Calls prog 222 #[ai (bB ⟨b,n*23,bC⟩),aa bf x] w λe w'=>e=bw (aa bf (vb t n x))/\w'=w:=by
 have HR:=hJ (Tb.row w b n t h hn hh);have H0:=hJ h0;go_in
 go_wp2_with fail
 refine(Bb b (n*23+2) 21 21 (λi=>(t.cD n i:Int)-1) x _ HR.v bG).mono ?_;rintro e w1 ⟨r,rfl,hi,hw⟩;subst w1;rw[Rf H0.v hi];go_wp2
 go_ret
 exact⟨rfl,rfl⟩
theorem Np(b n:Nat)(t:T)(w:bD)(h:Tb bE w b t)(hn:n<6)(hh:t.here n=bE)(hr:∃p,1<=p/\p<21/\t.cD n p=0):
  Calls prog 221 #[ai (bB ⟨b,n*23,bC⟩)] w λe w'=>e=bw (aa bf (Sp.low t n:Int))/\w'=w:=by
 have HR:Hid (∀i,i<20->w.cell? ⟨b,n*23+3+i,bC⟩=bB (aa bf ((t.cD n (i+1):Int)-1))):=hJ (λi hi=>by
  have:=Tb.row w b n t h hn hh (i+1) bG;rw[show n*23+2+(i+1)=n*23+3+i by omega]at this;exact this)
 have HX:=hJ hr;go_in
 go_wp2_with fail
 refine(Bb b (n*23+3) 20 20 (λi=>(t.cD n (i+1):Int)-1) (-1) _ HR.v bG).mono ?_;rintro e w1 ⟨r,rfl,hi,hw⟩;subst w1;obtain⟨k,hk,rfl,hlow⟩:∃k:Nat,k<20/\r=k/\Sp.low t n=k+1:=by
  rcases hi with⟨i,hi,e,hl,rfl⟩|⟨hl,rfl⟩
  .have e':(t.cD n (i+1):Int)-1= -1:=e;exact⟨i,hi,rfl,Sp.Tg bG bG bG (λq q1 q2 c=>by
    have:(t.cD n (q-1+1):Int)-1≠ -1:=hl (q-1) bG;rw[show q-1+1=q by omega,c]at this;exact this rfl)⟩
  .obtain⟨p,p1,p2,p3⟩:=HX.v;have:(t.cD n (p-1+1):Int)-1≠ -1:=hl (p-1) bG;rw[show p-1+1=p by omega,p3]at this;exact aZ rfl this
 have HL:=hJ hlow;have hk':(k:Int)<20:=bG
 go_wp2
 go_ret
 rw[HL.v];refine⟨?_,rfl⟩;go_num
theorem Ox(b:Nat)(x z:Int)(t:T)(w:bD)(h:Tb bE w b t)(h0:∀n,n<6->t.cD n 0=0):
  Calls prog 147 #[ai (bB ⟨b,0,bC⟩),aa bf x,aa bf z] w λe w'=>e=bw (ao #[aa bf (Sp.mA t x z:Int),bS (Sp.xC t x z)])/\w'=w:=by
 have HF:=hJ h;have H0:=hJ h0;by_cases k:Sp.iX t z x=0
 .have HK:=hJ k;obtain⟨n,y,rfl,rfl,hn,hy,hh⟩:=Sp.tD k;have HH:=hJ hh;have hnI:(n:Int)<6:=bG
  have HE:Hid (Sp.xC t y n=if Sp.iE t n y=0 then 2 else 0):=hJ (by unfold Sp.xC;rw[aJ k,hZ,hZ]);have HN:Hid (Sp.mA t y n=Sp.iE t n y):=hJ (by
   unfold Sp.mA;rw[HE.v];by_cases c:Sp.iE t n y=0
   .rw[aJ c,aI bM,c]
   .rw[aI c,aJ rfl,hZ,hZ])
  go_in
  go_wp2_with fail
  refine sC (kS b n y t _ HF.v) ?_;rintro w1 hw;subst w1;rw[HK.v,bN];go_wp2_with fail
  refine sC (An b n y t _ HF.v hn HH.v (H0.v n hn)) ?_;rintro w1 hw;subst w1;unfold vb;by_cases c:Sp.iE t n y=0
  .have HC:=hJ c;rw[aJ c];go_wp2
   go_ret2
   rw[HE.v,HN.v,HC.v];exact⟨rfl,rfl⟩
  .have HC:=hJ c;rw[aI c];generalize hp:Sp.iE t n y=p at*;have hp1:decide ((p:Int)<1)=bF:=by simp;omega
   go_wp2
   go_ret2
   rw[HE.v,HN.v,aI HC.v];exact⟨rfl,rfl⟩
 .have HE:Hid (Sp.xC t x z=Sp.iX t z x):=hJ (by unfold Sp.xC;rw[aI k]);have HN:Hid (Sp.mA t x z=0):=hJ (by unfold Sp.mA;rw[HE.v,aI k]);have HW:=hJ k;go_in
  go_wp2_with fail
  refine sC (kS b z x t _ HF.v) ?_;rintro w1 hw;subst w1;rw[bP HW.v];go_wp2
  go_ret2
  rw[HE.v,HN.v,bP HW.v];exact⟨rfl,rfl⟩
theorem Dc(b:Nat)(z p:Int)(t:T)(w:bD)(h:Tb bE w b t):
  Calls prog 61 #[ai (bB ⟨b,0,bC⟩),aa bf z,aa bf p] w λe w'=>e=bw (ao #[aa bf (Sp.eV t z p:Int),bS (Sp.gF t z p)])/\w'=w:=by
 have HF:=hJ h;by_cases k:Sp.cQ t z=0
 .have HK:=hJ k;obtain⟨n,rfl,hn,hh⟩:=Sp.oD k;have hnI:(n:Int)<6:=bG
  by_cases hp:p<1\/20<p
  .have HE:Hid (Sp.gF t n p=2):=hJ (by unfold Sp.gF;rw[aJ k,nK]);have HN:Hid (Sp.eV t n p=0):=hJ (by unfold Sp.eV;rw[HE.v];rfl);by_cases p1:p<1
   .clear h k hh hp;go_in
    go_wp2_with fail
    refine sC (e9 b n t _ HF.v) ?_;rintro w1 hw;subst w1;rw[HK.v,bN];go_wp2
    go_ret2
    rw[HE.v,HN.v];exact⟨rfl,rfl⟩
   .have p1':decide (p<1)=bF:=by simp;omega
    have p2:21<=p:=bG
    go_in
    go_wp2_with fail
    refine sC (e9 b n t _ HF.v) ?_;rintro w1 hw;subst w1;rw[HK.v,bN];go_wp2
    go_ret2
    rw[HE.v,HN.v];exact⟨rfl,rfl⟩
  .obtain⟨q,rfl⟩:=aG (show 0<=p by omega);have cc:=h.O4 n q hn bG hh;have q1:decide ((q:Int)<1)=bF:=by simp;omega
   have q2:decide (21<=(q:Int))=bF:=by simp;omega
   have q3:(q:Int)<21:=bG
   by_cases c:t.cD n q=0
   .have HE:Hid (Sp.gF t n q=2):=hJ (by unfold Sp.gF;rw[aJ k,hZ,hZ,aJ (.inr (.inr c))]);have HN:Hid (Sp.eV t n q=0):=hJ (by unfold Sp.eV;rw[HE.v];rfl);rw[c]at cc;have cc':w.cell? ⟨b,n*23+2+q,bC⟩=bB (aa bf (-1)):=cc;go_in
    go_wp2_with fail
    refine sC (e9 b n t _ HF.v) ?_;rintro w1 hw;subst w1;rw[HK.v,bN];go_wp2
    go_ret2
    rw[HE.v,HN.v];exact⟨rfl,rfl⟩
   .have HE:Hid (Sp.gF t n q=0):=hJ (by unfold Sp.gF;rw[aJ k,hZ,hZ,nJ]);have HN:Hid ((Sp.eV t n q:Int)=(t.cD n q:Int)-1):=hJ (by unfold Sp.eV;rw[HE.v,aJ rfl,hZ,hZ];omega);obtain⟨v,hv⟩:=hU ((t.cD n q:Int)-1);have v0:(v== -1)=bF:=by simp;omega
    rw[hv]at cc HN;go_in
    go_wp2_with fail
    refine sC (e9 b n t _ HF.v) ?_;rintro w1 hw;subst w1;rw[HK.v,bN];go_wp2
    go_ret2
    rw[HE.v,HN.v];exact⟨rfl,rfl⟩
 .have HE:Hid (Sp.gF t z p=Sp.cQ t z):=hJ (by unfold Sp.gF;rw[aI k]);have HN:Hid (Sp.eV t z p=0):=hJ (by unfold Sp.eV;rw[HE.v,aI k]);have HW:=hJ k;go_in
  go_wp2_with fail
  refine sC (e9 b z t _ HF.v) ?_;rintro w1 hw;subst w1;rw[bP HW.v];go_wp2
  go_ret2
  rw[HE.v,HN.v,bP HW.v];exact⟨rfl,rfl⟩
def cV(t:T)(n k:Nat):List Nat:=((List.range k).filter (Sp.jF t n)).map (λp=>t.cD n p-1)
theorem Oj{t:T}(h:t.cD n k≠0):cV t n (k+1)=cV t n k++[t.cD n k-1]:=by
 unfold cV;rw[List.range_succ,List.filter_append,List.map_append];simp[Sp.jF,h]
theorem QZ{t:T}(h:t.cD n k=0):cV t n (k+1)=cV t n k:=by
 unfold cV;rw[List.range_succ,List.filter_append,List.map_append];simp[Sp.jF,h]
theorem Oh(t:T)(n k:Nat):(cV t n k).length<=k:=by
 have:=bW (Sp.jF t n) (List.range k);simpa[cV]using this
def rW(t:T)(n:Nat):List Value:=(List.range 21).map (λp=>aa bf ((t.cD n p:Int)-1))
theorem D6(t:T)(n:Nat):(rW t n).length=21:=by simp[rW]
theorem Tb.Tz{t:T}(h:Tb bE w b t)(hn:n<6)(hh:t.here n=bE):w.rangeAt b (n*23+2) (rW t n):=λj v hv=>by
 have hj:j<21:=by have:=(aY.1 hv).1;rwa [D6]at this
 rw[h.O4 n j hn hj hh];simp[rW,hj]at hv;rw[hv]
theorem Ij(t:T)(n k:Nat)(hk:k<21)(w:bD):Sem.run prog (Instr.index 175 (au (rW t n).toArray) (aa IntKind.i64 k)) w= .ok (aa bf ((t.cD n k:Int)-1)) w:=by
 have hu:prog.underlying 175=bB (.array 21 3):=by kernel_rfl
 have h1:(k:Int)<21:=bG
 have hx:(rW t n)[k]? =bB (aa bf ((t.cD n k:Int)-1)):=by simp[rW,hk]
 simp[Instr.index,Sem.run_bind,run_underlying hu,go_sem,hx,hk]
theorem wR(b n:Nat)(t:T)(w:bD)(h:Tb bE w b t)(hn:n<6)(hh:t.here n=bE):
  Calls prog 224 #[ai (bB ⟨b,n*23,bC⟩)] w λe w'=>∃v,e=bw v/\LO w (Sp.gd t n) v w':=by
 obtain⟨i0,hi,hz0,hz1,hz2⟩:=info_parts Cf;have HR:=hJ (h.Tz hn hh);have hsz:Hid ((prog.info? 175).map (·.size)=bB (rW t n).length):=hJ (by rw[D6];kernel_rfl);go_in
 go_wp2_with (refine wpList_load_mid rfl 175 _ rfl b (n*23+2) rfl (rW t n) (.array 21 3) HR.v bH rfl hsz.v ?_)
 go_loopw [3,10] (λl i wr=>∃(k:Nat),i=aa bf k/\k<=21/\Hid (LO w (cV t n k) l wr)) (λ_ i _=>21-(intOf i).toNat)
 case atStart=>exact⟨0,rfl,bG,LO.nil w⟩
 case round=>
  obtain⟨k,rfl,hk,R⟩:=hrel;by_cases hlt:k<21
  .have hltI:(k:Int)<21:=bG
   have hix:=Ij t n k hlt wr;by_cases c:t.cD n k=0
   .have HM:=hJ (QZ c);rw[c]at hix;have hix':Sem.run prog (Instr.index 175 (au (rW t n).toArray) (aa IntKind.i64 k)) wr= .ok (aa bf (-1)) wr:=hix;go_wp2
    go_roundw
    case rel=>exact⟨k+1,by go_num,bG,by rw[HM.v];exact R⟩
    case measure=>simp[intOf];omega
   .have HM:=hJ (Oj c);obtain⟨x,hx⟩:=hU (t.cD n k-1);rw[hx]at HM;rw[show(t.cD n k:Int)-1=(x:Int)by omega]at hix;have hne:=v7 x;obtain⟨a,cap,hv⟩:=ij R.own;rw[hv];have HV:=hJ hv;have hlm:=Oh t n k;generalize hN:(cV t n k).length=N at*;have HN:=hJ hN;go_wp2_with (at_builtin;refine wpList_append_lies _ rfl _ _ 46 (by rfl) w.heap.size 3 i0 (aa .i64 0) 1 8 Tryz.underlying46 hi hz0 hz1 hz2 rfl bM (aj a N cap) N (rowOf (cV t n k)) (by rfl) (by rw[<-HV.v,<-HN.v];exact R.own.alloc _) ⟨wr.heap.size,0,bC⟩ 1 1 [aa bf x] (by rfl) rfl (cell_one_new _ _ _) (by simp[Value.oneCell']) bM (by unfold maxLen;omega) bG (by have:=R.cZ.size;simp;omega) (wr.heap.size+1) (by simp) ?_;intro gg cap2 w1 hown hgrow hat hlt2;have Q1:Hid (LO w (cV t n k++[x]) (aj (bB ⟨gg,0,bC⟩) (N+1) cap2) w1):=R.more HN.v hown _ (by rw[HV.v];exact hgrow))
    go_roundw
    case rel=>exact⟨k+1,by go_num,bG,by rw[HM.v];exact Q1⟩
    case measure=>simp[intOf];omega
  .have hk21:k=21:=bG
   subst hk21;go_wp2
   go_ret
   exact⟨_,rfl,R.v⟩
def eR(t:T)(z:Int):List Nat:=if Sp.cQ t z=0 then Sp.gd t z.toNat else[]
theorem DJ(b:Nat)(z:Int)(t:T)(w:bD)(h:Tb bE w b t):
  Calls prog 155 #[ai (bB ⟨b,0,bC⟩),aa bf z] w λe w'=>∃v,e=bw (ao #[v,bS (Sp.cQ t z)])/\LO w (eR t z) v w':=by
 have HF:=hJ h;by_cases k:Sp.cQ t z=0
 .have HK:=hJ k;obtain⟨n,rfl,hn,hh⟩:=Sp.oD k;have HH:=hJ hh;have hnI:(n:Int)<6:=bG
  go_in
  go_wp2_with fail
  refine sC (e9 b n t _ HF.v) ?_;rintro w1 hw;subst w1;rw[HK.v,bN];go_wp2_with fail
  refine(wR b n t _ HF.v hn HH.v).mono ?_;rintro e w1 ⟨v,rfl,hL⟩;have HL:=hJ hL;go_wp2
  go_ret2
  exact⟨v,by rw[HK.v];rfl,by unfold eR;rw[aJ HK.v,hZ];exact HL.v⟩
 .have HW:=hJ k;go_in
  go_wp2_with fail
  refine sC (e9 b z t _ HF.v) ?_;rintro w1 hw;subst w1;rw[bP HW.v];go_wp2
  go_ret2
  exact⟨_,by rw[bP HW.v];rfl,by unfold eR;rw[aI HW.v];exact LO.nil w⟩
def fJ(k i:Nat):Int:=if i<k then -1 else 0
theorem Tk(k:Nat):Sp.gE (fJ k) k (-1)=fJ (k+1):=by
 funext i;unfold Sp.gE fJ;by_cases e:i=k
 .rw[aJ e,nK]
 .rw[aI e];by_cases c:i<k
  .rw[aJ c,nK]
  .rw[aI c,nJ]
section
variable {ops:Array Oper}{rest:List Oper}{x:Oper}{a:Act}{w:bD}{Q:Exit->Act->bD->Prop}
theorem lE(hgd:x.guard=bC)(ho:x.op= .alloc 177)(h:wpList prog ops Q rest (a.put x.dst (ai (bB ⟨w.heap.size,0,bC⟩))) (w.alloc (bA (eW bF 0 (fJ 0)) 177))):wpList prog ops Q (x::rest) a w:=
 wpList_plain hgd λ_ hK=>by
  unfold Oper.wp execOp;simp only[ho];simp[go_sem];exact hK _ _ h
theorem xW(hgd:x.guard=bC)(ho:x.op= .build 177 #[])(h:wpList prog ops Q rest (a.put x.dst (au (eW bF 0 (fJ 0)))) w):wpList prog ops Q (x::rest) a w:=
 wpList_plain hgd λ_ hK=>by
  unfold Oper.wp execOp;simp only[ho];simp[go_sem];exact hK _ _ h
theorem xX(hgd:x.guard=bC)(y:Operand)(p:Int)(ho:x.op= .build 177 #[(0, .const (ar bE)),(1,y)])(hy:a.eval y=aa bf p)(h:wpList prog ops Q rest (a.put x.dst (au (eW bE p (fJ 0)))) w):wpList prog ops Q (x::rest) a w:=
 wpList_plain hgd λ_ hK=>by
  unfold Oper.wp execOp;simp only[ho,List.map_toArray,List.map_cons,List.map_nil,hy,BigFrame.eval_const];simp[go_sem];exact hK _ _ h
end
theorem pF(w:bD)(cs:Array Value)(T:TypeId)(k:Nat)(hk:k<=cs.size):(w.alloc (bA cs T)).there w.heap.size 0 k:=λj hj=>by
 have h:=heap_alloc_new w (bA cs T);exact⟨by rw[cA h,Array.getElem?_eq_getElem bG];rfl,cL h _⟩
def rV(t:T):List Value:=(List.range 138).map (kH bE t)
theorem tJ(t:T):(rV t).length=138:=by simp[rV]
theorem Tb.Tx{t:T}(h:Tb bE w b t):w.rangeAt b 0 (rV t):=λj v hv=>by
 have hj:j<138:=by have:=(aY.1 hv).1;rwa [tJ]at this
 rw[Nat.zero_add,h.cell j bG];simp[rV,hj]at hv;rw[hv]
def kZ(t:T)(k:Nat):Array Value:=eW (t.here k) (t.par k) (λp=>cw bE (t.here k) (t.cD k p))
theorem Rq(t:T)(k:Nat)(hk:k<6):(rV t).toArray.extract (k*23) (k*23+23)=kZ t k:=by
 apply bL;intro i;rw[Array.getElem?_extract];by_cases hi:i<23
 .rw[aJ (by simp[tJ];omega)];unfold kZ;rw[nX _ _ _ i hi];have:(rV t).toArray[k*23+i]? =bB (kH bE t (k*23+i)):=by rw[List.getElem?_toArray,rV,List.getElem?_map,List.getElem?_range bG];rfl
  rw[this];by_cases e0:i=0
  .subst e0;rw[aJ rfl,Nat.add_zero,dq bE t k hk]
  .by_cases e1:i=1
   .subst e1;rw[nJ,aJ rfl,dC bE t k hk]
   .rw[aI e0,aI e1];have:=dD bE t k (i-2) hk bG;rw[show k*23+2+(i-2)=k*23+i by omega]at this;rw[this]
 .rw[aI (by simp[tJ];omega),aR (by unfold kZ;rw[fF];omega)]
theorem Ii(t:T)(k:Nat)(hk:k<6)(w:bD):Sem.run prog (Instr.index 178 (au (rV t).toArray) (aa IntKind.i64 k)) w= .ok (au (kZ t k)) w:=by
 have hu:prog.underlying 178=bB (.array 6 177):=by kernel_rfl
 have h1:(k:Int)<6:=bG
 have hx:=Rq t k hk;simp at hx;simp[Instr.index,Sem.run_bind,run_underlying hu,go_sem,hx,hk]
theorem pC(t:T)(k:Nat):(kZ t k).size=23:=fF _ _ _
theorem xL(t:T)(k:Nat):(kZ t k).all (·.oneCell')=bE:=sH _ _ _
theorem K9{w0:bD}(hb:Below w0.heap.size w0 w)(cs:Array Value)(T:TypeId)(hs:cs.size=23)(t:Sp.T)(k:Nat):
  ((w.alloc (bA cs T)).setCells w.heap.size 0 (kZ t k).toList).cell? ⟨w.heap.size,0,bC⟩=bB (ar (t.here k))/\((w.alloc (bA cs T)).setCells w.heap.size 0 (kZ t k).toList).cell? ⟨w.heap.size,1,bC⟩=bB (aa bf (t.par k))/\Below w0.heap.size w0 ((w.alloc (bA cs T)).setCells w.heap.size 0 (kZ t k).toList):=by
 have ht:=pF w cs T 23 bG;have hl:(kZ t k).toList.length=23:=by rw[aB,pC]
 have hin:∀j,j<23->((w.alloc (bA cs T)).setCells w.heap.size 0 (kZ t k).toList).cell? ⟨w.heap.size,0+j,bC⟩=(kZ t k)[j]? :=λj hj=>by
  rw[aS w.heap.size (kZ t k).toList 0 _ (λi hi=>(ht i bG).1) j bG,<-aM,aW bG]
 refine⟨?_,?_,?_⟩
 .have:=hin 0 bG;rw[Nat.zero_add]at this;rw[this];exact nX _ _ _ 0 bG
 .have:=hin 1 bG;rw[Nat.zero_add]at this;rw[this];exact nX _ _ _ 1 bG
 .have f:bO w.heap.size w0 ((w.alloc (bA cs T)).setCells w.heap.size 0 (kZ t k).toList):=bO.setCells _ _ (bO.cO (hb.alloc hb.size _));have hsz:=hb.size;exact⟨f.os,f.tape,f.output,f.size,λj hj=>f.block j hj bG⟩
theorem ra(b n:Nat)(t:T)(w:bD)(h:Tb bE w b t):
  Calls prog 225 #[ai (bB ⟨b,0,bC⟩),aa bf n] w λe w'=>e=bw (ar (Sp.kids t n))/\Below w.heap.size w w':=by
 have HR:=hJ h.Tx;have hsz:Hid ((prog.info? 178).map (·.size)=bB (rV t).length):=hJ (by rw[tJ];kernel_rfl);have hs1:Hid (∀k,(prog.info? 177).map (·.size)=bB (kZ t k).size):=hJ (λk=>by rw[pC];kernel_rfl);go_in
 go_wp2_with (refine wpList_load_mid rfl 178 _ rfl b 0 rfl (rV t) (.array 6 177) HR.v bH rfl hsz.v ?_)
 go_loopw [11] (λi wr=>∃(k:Nat),i=aa bf k/\k<=6/\Hid (Below w.heap.size w wr/\∀j,j<k->Sp.uK t n j=bF)) (λi _=>6-(intOf i).toNat)
 case atStart=>exact⟨0,rfl,bG,aQ _ _,λj hj=>bG⟩
 case round=>
  obtain⟨k,rfl,hk,R⟩:=hrel;by_cases hlt:k<6
  .have hltI:(k:Int)<6:=bG
   have hix:=Ii t k hlt wr;have HKB:Hid (Sp.uK t n k=(t.here k&&decide (t.par k=(n:Int)))):=hJ rfl;have NX:Hid (Sp.uK t n k=bF->∀j,j<k+1->Sp.uK t n j=bF):=hJ (λc j hj=>by
    by_cases e:j=k
    .rw[e];exact c
    .exact R.2 j bG)
   have NSP:=hJ (K9 R.1 (eW bF 0 (fJ 0)) 177 (fF _ _ _) t k);have HHK:Hid (Sp.uK t n k=bE->Sp.kids t n=bE):=hJ (λc=>by unfold Sp.kids;exact List.any_eq_true.2 ⟨k,List.mem_range.2 hlt,c⟩);generalize t.here k=hh at*;generalize t.par k=pp at*;cases hh
   .go_wp2_with (first|(refine lE rfl rfl ?_)|(refine wpList_store_mid rfl 177 _ _ rfl wr.heap.size 0 (kZ t k) rfl rfl (by rw[pC];exact pF _ _ _ 23 (by rw[fF];exact aL _)) (hs1.v k) (xL t k) ?_;generalize hW:World.setCells _ _ _ _=W2;obtain⟨n0,n1⟩:W2.cell? ⟨wr.heap.size,0,bC⟩=bB _/\W2.cell? ⟨wr.heap.size,1,bC⟩=bB _:=(by rw[<-hW];exact⟨NSP.1,NSP.2.1⟩);have NB:Hid (Below w.heap.size w W2):=hJ (by rw[<-hW];exact NSP.2.2)))
    go_roundw
    case rel=>exact⟨k+1,by go_num,bG,NB.v,NX.v (by rw[HKB.v];rfl)⟩
    case measure=>simp[intOf];omega
   .by_cases hp:pp=(n:Int)
    .subst hp;go_wp2_with (first|(refine lE rfl rfl ?_)|(refine wpList_store_mid rfl 177 _ _ rfl wr.heap.size 0 (kZ t k) rfl rfl (by rw[pC];exact pF _ _ _ 23 (by rw[fF];exact aL _)) (hs1.v k) (xL t k) ?_;generalize hW:World.setCells _ _ _ _=W2;obtain⟨n0,n1⟩:W2.cell? ⟨wr.heap.size,0,bC⟩=bB _/\W2.cell? ⟨wr.heap.size,1,bC⟩=bB _:=(by rw[<-hW];exact⟨NSP.1,NSP.2.1⟩);have NB:Hid (Below w.heap.size w W2):=hJ (by rw[<-hW];exact NSP.2.2)))
     go_ret
     exact⟨da (HHK.v (by rw[HKB.v];simp)).symm,NB.v⟩
    .have hp':(pp==(n:Int))=bF:=by simp;exact hp
     go_wp2_with (first|(refine lE rfl rfl ?_)|(refine wpList_store_mid rfl 177 _ _ rfl wr.heap.size 0 (kZ t k) rfl rfl (by rw[pC];exact pF _ _ _ 23 (by rw[fF];exact aL _)) (hs1.v k) (xL t k) ?_;generalize hW:World.setCells _ _ _ _=W2;obtain⟨n0,n1⟩:W2.cell? ⟨wr.heap.size,0,bC⟩=bB _/\W2.cell? ⟨wr.heap.size,1,bC⟩=bB _:=(by rw[<-hW];exact⟨NSP.1,NSP.2.1⟩);have NB:Hid (Below w.heap.size w W2):=hJ (by rw[<-hW];exact NSP.2.2)))
     go_roundw
     case rel=>exact⟨k+1,by go_num,bG,NB.v,NX.v (by rw[HKB.v,aT hp];simp)⟩
     case measure=>simp[intOf];omega
  .have hltI:¬(k:Int)<6:=bG
   go_wp2
   go_ret
   refine⟨da ?_,R.1⟩;cases hk2:Sp.kids t n
   .rfl
   .obtain⟨j,hj,kj⟩:=List.any_eq_true.1 hk2;rw[R.2 j (by have:=List.mem_range.1 hj;omega)]at kj;cases kj
structure jT (w W:bD)(b2 b3:Nat)(p:Int)(k:Nat):Prop where
 cZ:Below w.heap.size w W
 le:w.heap.size<=b2
 ne:b2<b3
 two:∃cs,W.heap[b2]? =bB (bA cs 177 (0,0))/\cs.size=23
 PO:W.heap[b3]? =bB (bA (eW bE p (fJ k)) 177 (0,0))
theorem jT.set{W:bD}(h:jT w W b2 b3 p k)(hk:k<21):jT w (W.setCell ⟨b3,2+k,bC⟩ (aa bf (-1))) b2 b3 p (k+1):=by
 have h1:=h.le;have h2:=h.ne;refine⟨h.cZ.setCell (by show _<=b3;omega) _,h1,h2,?_,?_⟩
 .obtain⟨cs,c1,c2⟩:=h.two;exact⟨cs,(dS _ _ _ _ bG).trans c1,c2⟩
 .rw[cT h.PO,Rw _ _ _ k (-1) hk,Tk]
theorem uJ(b:Nat)(T:TypeId)(vs:List Value)(w:bD)(C:Array Value)(h:w.heap[b]? =bB (bA C T (0,0)))(hs:C.size=vs.length):(w.setCells b 0 vs).heap[b]? =bB (bA vs.toArray T (0,0)):=by
 obtain⟨C',h1,h2⟩:=ed b vs 0 w C h;rw[h1];congr 2;apply bL;intro i;by_cases hi:i<vs.length
 .have:=aS b vs 0 w (λj hj=>by rw[cA h,Array.getElem?_eq_getElem bG];rfl) i hi;rw[cA h1,Nat.zero_add]at this;rw[this,List.getElem?_toArray,aW hi]
 .rw[aR bG,aR (by simp;omega)]
theorem jT.start(w:bD)(p:Int):jT w (((w.alloc (bA (eW bF 0 (fJ 0)) 177)).alloc (bA (eW bF 0 (fJ 0)) 177)).setCells (w.alloc (bA (eW bF 0 (fJ 0)) 177)).heap.size 0 (eW bE p (fJ 0)).toList) w.heap.size (w.alloc (bA (eW bF 0 (fJ 0)) 177)).heap.size p 0:=by
 have e1:(w.alloc (bA (eW bF 0 (fJ 0)) 177)).heap.size=w.heap.size+1:=by simp
 have f:bO (w.alloc (bA (eW bF 0 (fJ 0)) 177)).heap.size w (((w.alloc (bA (eW bF 0 (fJ 0)) 177)).alloc (bA (eW bF 0 (fJ 0)) 177)).setCells (w.alloc (bA (eW bF 0 (fJ 0)) 177)).heap.size 0 (eW bE p (fJ 0)).toList):=bO.setCells _ _ (bO.cO (((aQ _ w).alloc (aL _) _).alloc (by simp) _));refine⟨⟨f.os,f.tape,f.output,f.size,λj hj=>f.block j hj bG⟩,aL _,bG,⟨_,?_,fF bF 0 (fJ 0)⟩,?_⟩
 .rw[mT _ _ _ _ _ bG];rw[Below.heap_alloc _ _ _ bG];exact heap_alloc_new w _
 .have:=uJ (w.alloc (bA (eW bF 0 (fJ 0)) 177)).heap.size 177 (eW bE p (fJ 0)).toList ((w.alloc (bA (eW bF 0 (fJ 0)) 177)).alloc (bA (eW bF 0 (fJ 0)) 177)) _ (heap_alloc_new _ _) (by rw[fF,sG]);rw[this]
theorem jT.range{W:bD}(h:jT w W b2 b3 p k):W.rangeAt b3 0 (eW bE p (fJ k)).toList:=λj v hv=>by
 rw[Nat.zero_add,cA h.PO,<-aM,hv]
theorem jT.there{w W:bD}{b2 b3:Nat}{p:Int}{k:Nat}(h:jT w W b2 b3 p k)(n:Nat)(hn:n=23):W.there b2 0 n:=by
 obtain⟨cs,c1,c2⟩:=h.two;intro j hj;exact⟨by rw[cA c1,Array.getElem?_eq_getElem bG];rfl,cL c1 _⟩
theorem jT.TQ(w:bD)(p:Int):jT w (((w.alloc (bA (eW bF 0 (fJ 0)) 177)).alloc (bA (eW bF 0 (fJ 0)) 177)).setCells (w.heap.size+1) 0 (eW bE p (fJ 0)).toList) w.heap.size (w.heap.size+1) p 0:=by
 have:=jT.start w p;rw[show(w.alloc (bA (eW bF 0 (fJ 0)) 177)).heap.size=w.heap.size+1 by simp]at this;exact this
theorem jT.cell{w W:bD}{b2 b3:Nat}{p:Int}{k:Nat}(h:jT w W b2 b3 p k)(hk:k<21):W.cell? ⟨b3,2+k,bC⟩=bB (aa bf (fJ k k)):=by
 rw[cA h.PO,nX _ _ _ (2+k) bG,nJ,nJ,show 2+k-2=k by omega]
theorem jT.fz{W:bD}(h:jT w W b2 b3 p k)(o:Nat):W.frozen? ⟨b3,o,bC⟩=bF:=cL h.PO o
theorem jT.done{W:bD}(h:jT w W b2 b3 p k)(cs:List Value)(hc:cs.length=23):(W.setCells b2 0 cs).rangeAt b2 0 cs/\Below w.heap.size w (W.setCells b2 0 cs):=by
 refine⟨World.rangeAt_setCells_same _ _ _ _ (h.there _ hc),?_⟩;have f:bO b2 W (W.setCells b2 0 cs):=bO.setCells _ _ (bO.refl _ _);exact f.below h.cZ h.le h.cZ.size
theorem uZ(p:Int)(w:bD):
  Calls prog 161 #[aa bf p] w λe w'=>e=bw (au (eW bE p (fJ 21)))/\Below w.heap.size w w':=by
 have hs1:Hid ((prog.info? 177).map (·.size)=bB (eW bE p (fJ 0)).size):=hJ (by rw[fF];kernel_rfl);have hs2:Hid ((prog.info? 177).map (·.size)=bB (eW bE p (fJ 21)).toList.length):=hJ (by rw[sG];kernel_rfl);have hs3':Hid ((prog.info? 177).map (·.size)=bB (eW bE p (fJ 21)).size):=hJ (by rw[fF];kernel_rfl);have S0:=hJ (jT.TQ w p);go_in
 go_wp2_with (first|(refine lE rfl rfl ?_)|(refine xX rfl _ p rfl rfl ?_)|(refine wpList_store_mid rfl 177 _ _ rfl _ 0 (eW bE p (fJ 0)) rfl rfl (by rw[fF];exact pF _ _ _ 23 (by rw[fF];exact aL _)) hs1.v (sH _ _ _) ?_))
 refine cR (λW=>jT w W w.heap.size (w.heap.size+1) p 0) S0.v ?_;intro W1 h1;have S1:=hJ h1;generalize w.heap.size+1=b3 at*;obtain⟨b2,hb2⟩:=hU (w.heap.size);rw[hb2]at S1|-;have HB2:=hJ hb2;go_loopw [7] (λi wr=>∃(k:Nat),i=aa bf k/\k<=21/\Hid (jT w wr b2 b3 p k)) (λi _=>21-(intOf i).toNat)
 case atStart=>exact⟨0,rfl,bG,S1⟩
 case round=>
  obtain⟨k,rfl,hk,S⟩:=hrel;by_cases hlt:k<21
  .have hltI:(k:Int)<21:=bG
   have c0:=S.cell hlt;have cf:=S.fz;go_wp2
   go_roundw
   case rel=>exact⟨k+1,by go_num,bG,S.set hlt⟩
   case measure=>simp[intOf];omega
  .have hk21:k=21:=bG
   subst hk21;obtain⟨A,hA⟩:=hU (eW bE p (fJ 21));have hl:Hid (A.toList.length=23):=hJ (by rw[<-hA];exact sG _ _ _);have hr:Hid (wr.rangeAt b3 0 A.toList):=hJ (by rw[<-hA];exact S.range);have h1:Hid (A.all (·.oneCell')=bE):=hJ (by rw[<-hA];exact sH _ _ _);have ht:Hid (wr.there b2 0 A.size):=hJ (S.there _ (by rw[<-hA];exact fF _ _ _));have hD:=hJ (S.done A.toList hl.v);rw[hA]at hs2;have hs3:Hid ((prog.info? 177).map (·.size)=bB A.size):=hJ (by rw[<-hA];exact hs3'.v);have HA:=hJ hA;go_wp2_with (first|(refine wpList_load_mid rfl 177 _ rfl b3 0 rfl A.toList _ hr.v Tryz.underlying177 rfl hs2.v ?_;rw[Array.toArray_toList])|(refine wpList_store_mid rfl 177 _ _ rfl b2 0 A rfl rfl ht.v hs3.v h1.v ?_))
   have hld:=run_loadVar_mid (P:=prog) (wr.setCells b2 0 A.toList) b2 0 177 A.toList _ hD.1 Tryz.underlying177 rfl hs2.v;rw[Array.toArray_toList]at hld;generalize hW:World.setCells _ _ _ _=W2 at*;refine bodyPost_ret (v:=au A) (by simp[results,Tryz.results161,Act.put,asAddr,hld]) rfl ⟨by rw[HA.v],hD.2⟩
theorem K8(q:Nat)(hq:q<21):fJ 21 q=cw bE bE ((λ_=>0) q):=by unfold fJ;rw[aJ hq];rfl
def G3:Array Value:=((List.range 158).map λi=>if i<138/\i%23=0 then ar bF else aa .i64 0).toArray
theorem UA:Tryz.zeroCells181=G3:=by kernel_rfl
theorem RH:G3.size=158:=by simp[G3]
theorem Co(i:Nat)(h:i<158):G3[i]? =bB (if i<138/\i%23=0 then ar bF else aa .i64 0):=by simp[G3,h]
def tz(c:Bool):T:=⟨λ_=>bF,λ_=>0,λ_ _=>0,λ_=>if c then 1 else 0⟩
theorem Rx{c:Bool}(h:w.heap[b]? =bB (bA G3 (UX c) (0,0))):Tb c w b (tz c):=by
 refine⟨⟨_,h,RH⟩,gB (λm hm=>?_) (λm hm=>?_) (λm q hm hq=>?_) (λy hy=>?_)⟩
 .rw[dq c _ m hm,cA h,Co _ bG,nK];rfl
 .rw[dC c _ m hm,cA h,Co _ bG,nJ];rfl
 .rw[dD c _ m q hm hq,cA h,Co _ bG,nJ];cases c<;>rfl
 .rw[dY,cA h,Co _ bG,nJ];cases c<;>rfl
def tk(k:Nat):T:=⟨λn=>decide (n=0),λn=>if n=0 then -1 else 0,λ_ _=>0,λx=>if x<k then 0 else 1⟩
theorem Ux(h:Tb bE w b (tk k))(hk:k<20):Tb bE (w.setCell ⟨b,138+k,bC⟩ (aa bf (-1))) b (tk (k+1)):=by
 have:=h.setOf k 0 hk;refine this.congr (gB (λm hm=>by rw[dq bE _ m hm,dq bE _ m hm];rfl) (λm hm=>by rw[dC bE _ m hm,dC bE _ m hm];rfl) (λm q hm hq=>by rw[dD bE _ m q hm hq,dD bE _ m q hm hq];rfl) (λy hy=>?_));unfold tk Sp.tZ;grind
theorem TY(h:Tb bE w b (tk 20)):Tb bE w b Sp.t0:=
 h.congr (gB (λm hm=>by rw[dq bE _ m hm,dq bE _ m hm];rfl) (λm hm=>by rw[dC bE _ m hm,dC bE _ m hm];rfl) (λm q hm hq=>by rw[dD bE _ m q hm hq,dD bE _ m q hm hq];rfl) (λy hy=>by rw[dY,dY];unfold tk;simp only[aJ hy];rfl))
theorem OU(h:Tb bE w b (tz bE)):Tb bE (w.setCells b 0 (eW bE (-1) (fJ 21)).toList) b (tk 0):=by
 have:=h.xK 0 bG bE (-1) (fJ 21) (λ_=>0) K8;refine this.congr (gB (λm hm=>?_) (λm hm=>?_) (λm q hm hq=>?_) (λy hy=>?_))
 .rw[dq bE _ m hm,dq bE _ m hm];by_cases e:m=0
  .subst e;rfl
  .simp[tk,tz,Sp.nF,e]
 .rw[dC bE _ m hm,dC bE _ m hm];by_cases e:m=0
  .subst e;rfl
  .simp[tk,tz,Sp.gE,e]
 .rw[dD bE _ m q hm hq,dD bE _ m q hm hq];by_cases e:m=0
  .subst e;rfl
  .simp[tk,tz,Sp.nF,e]
 .rw[dY,dY];rfl
theorem su(w:bD):Calls prog 83 #[] w λe w'=>e=bw (ai (bB ⟨w.heap.size,0,bC⟩))/\Tb bE w' w.heap.size Sp.t0/\Below w.heap.size w w'/\w.heap.size<w'.heap.size:=by
 have Z:Hid (Tb bE (w.alloc (bA Tryz.zeroCells181 181)) w.heap.size (tz bE)/\Below w.heap.size w (w.alloc (bA Tryz.zeroCells181 181))):=hJ (by
  rw[UA];exact⟨Rx (heap_alloc_new w _),(aQ _ _).alloc (aL _) _⟩)
 go_in
 go_wp2
 refine cR (λW=>Tb bE W w.heap.size (tz bE)/\Below w.heap.size w W) Z.v ?_;rintro W1 ⟨h1,hb1⟩;have S1:=hJ (aK h1 hb1);obtain⟨b,hb⟩:=hU (w.heap.size);rw[hb]at S1|-;have HB:=hJ hb;go_region_held3 (λ_=>True) (trivial) ((go_at_call 161;refine sC (uZ _ _) ?_;rintro w2 hb2;have T2:Hid (Tb bE w2 b (tz bE)/\Below b w w2):=hJ ⟨S1.1.drew.below hb2,S1.2.drew.trans (hb2.mono (bI S1.1.lt))⟩;obtain⟨A,hA⟩:=hU (eW bE (-1) (fJ 21));have HA:=hJ hA;have hAs:A.size=23:=(by rw[<-hA];exact fF _ _ _);have st:=T2.1.store 0 bG bE (-1) (fJ 21);rw[Nat.zero_mul]at st;rw[hA]at st|-))
 generalize hW2:World.setCells _ _ _ _=W2;have S2:Hid (Tb bE W2 b (tk 0)/\Below b w W2):=hJ (by
  have f:bO b w2 W2:=by rw[<-hW2];exact bO.setCells _ _ (bO.refl _ _)
  refine⟨?_,f.below T2.2 (aL _) (bI T2.1.lt)⟩;rw[<-hW2,<-HA.v];exact OU T2.1)
 go_wp2
 go_loopw [10] (λi wr=>∃(k:Nat),i=aa bf k/\k<=20/\Hid (Tb bE wr b (tk k)/\Below b w wr)) (λi _=>20-(intOf i).toNat)
 case atStart=>exact⟨0,rfl,bG,S2⟩
 case round=>
  obtain⟨k,rfl,hk,S⟩:=hrel;by_cases hlt:k<20
  .have hltI:(k:Int)<20:=bG
   have c0:=S.1.Sd k hlt;have cf:=S.1.frozen;go_wp2
   go_roundw
   case rel=>exact⟨k+1,by go_num,bG,Ux S.1 hlt,S.2.setCell (by show b<=b;omega) _⟩
   case measure=>simp[intOf];omega
  .have hk20:k=20:=bG
   subst hk20;go_wp2
   go_ret
   rw[HB.v];exact⟨rfl,TY S.1,S.2,S.1.lt⟩
theorem Jy(b:Nat)(z:Int)(t:T)(w:bD)(h:Tb bE w b t)(k:Sp.cQ t z≠0):
  Calls prog 140 #[ai (bB ⟨b,0,bC⟩),aa bf z] w λe w'=>e=bw (ao #[aa bf 0,bS (Sp.cQ t z)])/\w'=w:=by
 have HF:=hJ h;have HW:=hJ k;go_in
 go_wp2_with fail
 refine sC (e9 b z t _ HF.v) ?_;rintro w1 hw;subst w1;rw[bP HW.v];go_wp2
 go_ret2
 rw[bP HW.v];exact⟨rfl,rfl⟩
theorem wX(b n:Nat)(t:T)(d:Nat->Nat)(w:bD)(h:Tb bE w b t)(hT:Sp.Tree t d)(hn:n<6)(hh:t.here n=bE)(hl:4<=(Sp.W t n).length):
  Calls prog 140 #[ai (bB ⟨b,0,bC⟩),aa bf n] w λe w'=>e=bw (ao #[aa bf 0,bS 7])/\w'=w:=by
 have HF:=hJ h;have HT:=hJ (aK hT hh);have HK:=hJ (Sp.iW hn hh);go_in
 go_wp2_with fail
 refine sC (e9 b n t _ HF.v) ?_;rintro w1 hw;subst w1;rw[HK.v,bN];go_wp2_with fail
 refine sC (po b n t d _ HF.v HT.1 hn HT.2) ?_;rintro w1 hw;subst w1;generalize (Sp.W t n).length=L at*;have hlI:(4:Int)<=(L:Int):=bG
 go_wp2
 go_ret2
 exact⟨rfl,rfl⟩
theorem wY(b n:Nat)(t:T)(d:Nat->Nat)(w:bD)(h:Tb bE w b t)(hT:Sp.Tree t d)(hn:n<6)(hh:t.here n=bE)(hl:(Sp.W t n).length<4):
  Calls prog 140 #[ai (bB ⟨b,0,bC⟩),aa bf n] w λe w'=>
   (∃k:Nat,k<6/\t.here k=bF/\(∀j,j<k->t.here j=bE)/\e=bw (ao #[aa bf k,bS 0])/\Tb bE w' b {t with here:=Sp.nF t.here k bE,par:=Sp.gE t.par k n,cD:=λa q=>if a=k then 0 else t.cD a q}/\bO b w w')\/((∀j,j<6->t.here j=bE)/\e=bw (ao #[aa bf 0,bS 4])/\w'=w):=by
 have HF:=hJ h;have HT:=hJ (aK hT hh);have HK:=hJ (Sp.iW hn hh);go_in
 go_wp2_with fail
 refine sC (e9 b n t _ HF.v) ?_;rintro w1 hw;subst w1;rw[HK.v,bN];go_wp2_with fail
 refine sC (po b n t d _ HF.v HT.1 hn HT.2) ?_;rintro w1 hw;subst w1;generalize (Sp.W t n).length=L at*;have hlI:decide ((4:Int)<=(L:Int))=bF:=by simp;omega
 go_wp2_with fail
 go_loopw [19] (λi wr=>∃(k:Nat),i=aa bf k/\k<=6/\wr=w/\Hid (∀j,j<k->t.here j=bE)) (λi _=>6-(intOf i).toNat)
 case atStart=>exact⟨0,rfl,bG,rfl,λj hj=>bG⟩
 case round=>
  obtain⟨k,rfl,hk,hw,HN⟩:=hrel;subst wr;by_cases hlt:k<6
  .have hltI:(k:Int)<6:=bG
   have c0:=HF.Hq k hlt;cases hkh:t.here k
   .have HKH:=hJ hkh;rw[hkh]at c0;go_wp2_with fail
    go_region_held3 (λ_=>True) (trivial) ((go_at_call 161;refine sC (uZ _ _) ?_;rintro w2 hb2;have T2:Hid (Tb bE w2 b t/\bO b w w2):=hJ ⟨HF.drew.below hb2,(bO.refl b w).drew.trans (bO.cO hb2)⟩;obtain⟨A,hA⟩:=hU (eW bE (n:Int) (fJ 21));have HA:=hJ hA;have hAs:A.size=23:=(by rw[<-hA];exact fF _ _ _);have st:=T2.1.store k hlt bE (n:Int) (fJ 21);rw[hA]at st|-))
    generalize hW2:World.setCells _ _ _ _=W2;have S2:Hid (Tb bE W2 b {t with here:=Sp.nF t.here k bE,par:=Sp.gE t.par k n,cD:=λa q=>if a=k then 0 else t.cD a q}/\bO b w W2):=hJ (by
     refine⟨?_,by rw[<-hW2];exact bO.setCells _ _ T2.2⟩;rw[<-hW2,<-HA.v];exact T2.1.xK k hlt bE n (fJ 21) (λ_=>0) K8)
    go_wp2
    go_ret2
    exact .inl ⟨k,hlt,HKH.v,HN.v,rfl,S2.1,S2.2⟩
   .have HKH:=hJ hkh;rw[hkh]at c0;go_wp2
    go_roundw
    case rel=>exact⟨k+1,by go_num,bG,by first|rfl|trivial,λj hj=>by
     by_cases c:j=k
     .rw[c];exact HKH.v
     .exact HN.v j bG⟩
    case measure=>simp[intOf];omega
  .have hltI:¬(k:Int)<6:=bG
   go_wp2
   go_ret2
   exact .inr ⟨λj hj=>HN.v j bG,rfl,rfl⟩
theorem vS(b:Nat)(z:Int)(t:T)(d:Nat->Nat)(w:bD)(h:Tb bE w b t)(hI:Sp.Inv t d):
  Calls prog 140 #[ai (bB ⟨b,0,bC⟩),aa bf z] w λe w'=>e=bw (ao #[aa bf (Sp.nL t z:Int),bS (Sp.iN t z)])/\Tb bE w' b (Sp.gm t z)/\bO b w w':=by
 by_cases k:Sp.cQ t z=0
 .obtain⟨n,rfl,hn,hh⟩:=Sp.oD k;by_cases hl:4<=(Sp.W t n).length
  .have e1:Sp.iN t n=7:=by unfold Sp.iN;rw[aJ k,aJ hl]
   have e2:Sp.nL t n=0:=by unfold Sp.nL;rw[e1];rfl
   have e3:Sp.gm t n=t:=by unfold Sp.gm;rw[e1];rfl
   refine sC (wX b n t d w h hI.tree hn hh hl) ?_;rintro w' rfl;rw[e1,e2,e3];exact⟨rfl,h,bO.refl _ _⟩
  .refine(wY b n t d w h hI.tree hn hh bG).mono ?_;rintro e w' (⟨m,hm,hmh,hml,rfl,ht,hf⟩|⟨hall,rfl,rfl⟩)
   .have ef:=Sp.Nl hm hmh hml;have e1:Sp.iN t n=0:=by unfold Sp.iN;rw[aJ k,aI hl,ef,nJ]
    have e2:Sp.nL t n=m:=by unfold Sp.nL;rw[e1,aJ rfl,ef]
    rw[e1,e2];refine⟨rfl,?_,hf⟩;unfold Sp.gm;rw[e1,aJ rfl,ef];refine ht.congr (gB (λa ha=>by rw[dq bE _ a ha,dq bE _ a ha]) (λa ha=>by rw[dC bE _ a ha,dC bE _ a ha]) (λa q ha hq=>?_) (λy hy=>by rw[dY,dY]));rw[dD bE _ a q ha hq,dD bE _ a q ha hq];by_cases c:a=m
    .subst c;simp[hI.dead ha hq hmh]
    .simp[c]
   .have ef:=Sp.No hall;have e1:Sp.iN t n=4:=by unfold Sp.iN;rw[aJ k,aI hl,ef,aJ rfl]
    have e2:Sp.nL t n=0:=by unfold Sp.nL;rw[e1];rfl
    have e3:Sp.gm t n=t:=by unfold Sp.gm;rw[e1];rfl
    rw[e1,e2,e3];exact⟨rfl,h,bO.refl _ _⟩
 .have e1:Sp.iN t z=Sp.cQ t z:=by unfold Sp.iN;rw[aI k]
  have e2:Sp.nL t z=0:=by unfold Sp.nL;rw[e1,aI k]
  have e3:Sp.gm t z=t:=by unfold Sp.gm;rw[e1,aI k]
  refine sC (Jy b z t w h k) ?_;rintro w' rfl;rw[e1,e2,e3];exact⟨rfl,h,bO.refl _ _⟩
theorem Hz(b:Nat)(z:Int)(t:T)(w:bD)(h:Tb bE w b t)(k:Sp.cQ t z≠0):
  Calls prog 153 #[ai (bB ⟨b,0,bC⟩),aa bf z] w λe w'=>e=bw (bS (Sp.cQ t z))/\w'=w:=by
 have HF:=hJ h;have HW:=hJ k;go_in
 go_wp2_with fail
 refine sC (e9 b z t _ HF.v) ?_;rintro w1 hw;subst w1;rw[bP HW.v];go_wp2
 go_ret
 rw[bP HW.v];exact⟨rfl,rfl⟩
theorem JV(b:Nat)(t:T)(w:bD)(h:Tb bE w b t)(k:Sp.cQ t 0=0):
  Calls prog 153 #[ai (bB ⟨b,0,bC⟩),aa bf 0] w λe w'=>e=bw (bS 5)/\w'=w:=by
 have HF:=hJ h;have HK:=hJ k;go_in
 go_wp2_with fail
 refine sC (e9 b 0 t _ HF.v) ?_;rintro w1 hw;subst w1;rw[HK.v,bN];go_wp2
 go_ret
 exact⟨rfl,rfl⟩
theorem JU(b n:Nat)(t:T)(w:bD)(h:Tb bE w b t)(n0:n≠0)(hn:n<6)(hh:t.here n=bE):
  Calls prog 153 #[ai (bB ⟨b,0,bC⟩),aa bf n] w λe w'=>
   ((Sp.gd t n≠[]\/Sp.kids t n=bE)/\e=bw (bS 5)/\Below w.heap.size w w')\/(Sp.gd t n=[]/\Sp.kids t n=bF/\e=bw (bS 0)/\Tb bE w' b {t with here:=Sp.nF t.here n bF,par:=Sp.gE t.par n 0,cD:=λa q=>if a=n then 0 else t.cD a q}/\bO b w w'):=by
 have HF:=hJ h;have HH:=hJ hh;have HK:=hJ (Sp.iW hn hh);have nz:((n:Int)==0)=bF:=by simp;omega
 have hnI:(n:Int)<6:=bG
 have hs0:Hid ((prog.info? 177).map (·.size)=bB (eW bF 0 (fJ 0)).size):=hJ (by rw[fF];kernel_rfl);go_in
 go_wp2_with fail
 refine sC (e9 b n t _ HF.v) ?_;rintro w1 hw;subst w1;rw[HK.v,bN];go_wp2_with fail
 refine(wR b n t _ HF.v hn HH.v).mono ?_;rintro e w1 ⟨v,rfl,hL⟩;obtain⟨a,cap,hv⟩:=ij hL.own;subst hv;have B1:=hJ hL.cZ;by_cases c:Sp.gd t n=[]
 .have HC:=hJ c;rw[c];go_wp2_with fail
  refine sC (ra b n t _ (HF.below B1.v)) ?_;rintro w2 hb2;have B2:=hJ (B1.trans (hb2.mono B1.size));cases hkd:Sp.kids t n
  .have HKD:=hJ hkd;have T2:=hJ (HF.below B2.v);have S2:Hid (Tb bE (w2.setCells b (n*23) (eW bF 0 (fJ 0)).toList) b {t with here:=Sp.nF t.here n bF,par:=Sp.gE t.par n 0,cD:=λa q=>if a=n then 0 else t.cD a q}/\bO b w (w2.setCells b (n*23) (eW bF 0 (fJ 0)).toList)):=hJ ⟨T2.xK n hn bF 0 (fJ 0) (λ_=>0) (λq hq=>by unfold fJ;rw[nJ];rfl),bO.setCells _ _ (bO.cO B2.v)⟩;go_wp2_with (first|(refine xW rfl rfl ?_)|(refine wpList_store_mid rfl 177 _ _ rfl b (n*23) (eW bF 0 (fJ 0)) rfl rfl (T2.there n hn _ (fF _ _ _)) hs0.v (sH _ _ _) ?_;generalize hW:World.setCells _ _ _ _=W2;have S3:Hid (Tb bE W2 b {t with here:=Sp.nF t.here n bF,par:=Sp.gE t.par n 0,cD:=λa q=>if a=n then 0 else t.cD a q}/\bO b w W2):=hJ (by rw[<-hW];exact S2.v)))
   go_ret
   exact .inr ⟨HC.v,HKD.v,rfl,S3.1,S3.2⟩
  .have HKD:=hJ hkd;go_wp2
   go_ret
   exact .inl ⟨.inr HKD.v,rfl,B2.v⟩
 .have HC:=hJ c;have hlen:0<(Sp.gd t n).length:=List.length_pos_iff.2 c;generalize (Sp.gd t n).length=L at*;have hlI:(0:Int)<(L:Int):=bG
  go_wp2
  go_ret
  exact .inl ⟨.inl HC.v,rfl,B1.v⟩
theorem M9(b:Nat)(z:Int)(t:T)(w:bD)(h:Tb bE w b t):
  Calls prog 153 #[ai (bB ⟨b,0,bC⟩),aa bf z] w λe w'=>e=bw (bS (Sp.jj t z))/\Tb bE w' b (Sp.gP t z)/\bO b w w':=by
 by_cases k:Sp.cQ t z=0
 .obtain⟨n,rfl,hn,hh⟩:=Sp.oD k;by_cases n0:n=0
  .subst n0;have e1:Sp.jj t ((0:Nat):Int)=5:=by unfold Sp.jj;rw[aJ k,aJ (.inl rfl)]
   have e3:Sp.gP t ((0:Nat):Int)=t:=by unfold Sp.gP;rw[e1];rfl
   refine(JV b t w h k).mono ?_;rintro e w' ⟨rfl,rfl⟩;rw[e1,e3];exact⟨rfl,h,bO.refl _ _⟩
  .refine(JU b n t w h n0 hn hh).mono ?_;rintro e w' (⟨hc,rfl,hb⟩|⟨hm,hk,rfl,ht,hf⟩)
   .have e1:Sp.jj t n=5:=by unfold Sp.jj;rw[aJ k,hZ,aJ (.inr hc)]
    have e3:Sp.gP t n=t:=by unfold Sp.gP;rw[e1];rfl
    rw[e1,e3];exact⟨rfl,h.below hb,bO.cO hb⟩
   .have e1:Sp.jj t n=0:=by
     unfold Sp.jj;rw[aJ k,hZ,aI];grind
    rw[e1];refine⟨rfl,?_,hf⟩;unfold Sp.gP;rw[e1,aJ rfl,hZ];refine ht.congr (gB (λa ha=>by rw[dq bE _ a ha,dq bE _ a ha]) (λa ha=>by rw[dC bE _ a ha,dC bE _ a ha]) (λa q ha hq=>?_) (λy hy=>by rw[dY,dY]));rw[dD bE _ a q ha hq,dD bE _ a q ha hq];by_cases c:a=n
    .subst c;simp[Sp.DI hm q hq]
    .simp[c]
 .have e1:Sp.jj t z=Sp.cQ t z:=by unfold Sp.jj;rw[aI k]
  have e3:Sp.gP t z=t:=by unfold Sp.gP;rw[e1,aI k]
  refine(Hz b z t w h k).mono ?_;rintro e w' ⟨rfl,rfl⟩;rw[e1,e3];exact⟨rfl,h,bO.refl _ _⟩
namespace Sp
theorem Oc{t t':T}(h:∀p,t'.cD n p=t.cD n p):low t' n=low t n:=by unfold low uS;grind
theorem IZ{t t':T}(h:∀p,t'.cD n p=t.cD n p):iE t' n x=iE t n x:=by unfold iE tV;grind
theorem Inv.pid{t:T}(h:Inv t d)(hn:n<6)(he:∃p,p<21/\t.cD n p=x+1):iE t n x≠0/\iE t n x<21/\t.cD n (iE t n x)=x+1:=by
 obtain⟨p,hp,e⟩:=he;unfold iE;cases hf:(List.range 21).find? (tV t n x)with
 |none=>
  have:=List.find?_eq_none.1 hf p (by simpa using hp);exact aZ (by unfold tV;simp[e]) this
 |some k=>
  have:=lU hf;have hk:t.cD n k=x+1:=by have:=this.2.1;unfold tV at this;simpa using this
  refine⟨λc=>?_,this.1,hk⟩;have c':k=0:=c;rw[c',h.qQ n hn]at hk;omega
def nR(t:T)(L:List Nat)(n y:Nat):T:={DU t L y with of:=tZ t.of y (n+1)}
def mv(t:T)(L:List Nat)(y:Nat):T:={z7 t L y with of:=tZ t.of y 0}
end Sp
section
variable {w:bD}{b:Nat}{t:T}
theorem Kd(h:Tb bE w b t)(hy:y<20):Tb bE (w.setCell ⟨b,138+y,bC⟩ (aa bf (n:Int))) b (Sp.nR t [] n y):=by
 have:=h.setOf y (n+1) hy;rw[show co bE (n+1)=(n:Int)by unfold co;simp]at this;exact this.congr (gB (λm hm=>by rw[dq bE _ m hm,dq bE _ m hm];rfl) (λm hm=>by rw[dC bE _ m hm,dC bE _ m hm];rfl) (λm q hm hq=>by rw[dD bE _ m q hm hq,dD bE _ m q hm hq];simp[Sp.nR,Sp.DU]) (λz hz=>by rw[dY,dY];rfl))
theorem SV(h:Tb bE w b (Sp.nR t L n y))(hm:m<6)(hh:t.here m=bE)(hp:Sp.low t m<21):Tb bE (w.setCell ⟨b,m*23+2+Sp.low t m,bC⟩ (aa bf (y:Int))) b (Sp.nR t (L++[m]) n y):=by
 have:=h.Lt m (Sp.low t m) (y+1) hm hp;rw[show cw bE ((Sp.nR t L n y).here m) (y+1)=(y:Int)by rw[show(Sp.nR t L n y).here m=t.here m from rfl,hh];unfold cw;simp]at this;refine this.congr (gB (λa ha=>by rw[dq bE _ a ha,dq bE _ a ha];rfl) (λa ha=>by rw[dC bE _ a ha,dC bE _ a ha];rfl) (λa q ha hq=>?_) (λz hz=>by rw[dY,dY];rfl));rw[dD bE _ a q ha hq,dD bE _ a q ha hq];have e:(Sp.nR t (L++[m]) n y).cD a q=(L6 (Sp.nR t L n y) m (Sp.low t m) (y+1)).cD a q:=by
  show(if a∈L++[m]/\q=Sp.low t a then y+1 else t.cD a q)=if a=m/\q=Sp.low t m then y+1 else(if a∈L/\q=Sp.low t a then y+1 else t.cD a q);grind
 rw[e];rfl
theorem IW(h:Tb bE w b t)(hy:y<20):Tb bE (w.setCell ⟨b,138+y,bC⟩ (aa bf (-1))) b (Sp.mv t [] y):=by
 have:=h.setOf y 0 hy;exact this.congr (gB (λm hm=>by rw[dq bE _ m hm,dq bE _ m hm];rfl) (λm hm=>by rw[dC bE _ m hm,dC bE _ m hm];rfl) (λm q hm hq=>by rw[dD bE _ m q hm hq,dD bE _ m q hm hq];simp[Sp.mv,Sp.z7]) (λz hz=>by rw[dY,dY];rfl))
theorem Ra{p:Nat}(h:Tb bE w b (Sp.mv t L y))(hm:m<6)(hh:t.here m=bE)(hp:p<21)(e1:t.cD m p=y+1)(e2:∀q,q<21->t.cD m q=y+1->q=p):Tb bE (w.setCell ⟨b,m*23+2+p,bC⟩ (aa bf (-1))) b (Sp.mv t (L++[m]) y):=by
 have:=h.Lt m p 0 hm hp;rw[show cw bE ((Sp.mv t L y).here m) 0= -1 by rw[show(Sp.mv t L y).here m=t.here m from rfl,hh];rfl]at this;refine this.congr (gB (λa ha=>by rw[dq bE _ a ha,dq bE _ a ha];rfl) (λa ha=>by rw[dC bE _ a ha,dC bE _ a ha];rfl) (λa q ha hq=>?_) (λz hz=>by rw[dY,dY];rfl));rw[dD bE _ a q ha hq,dD bE _ a q ha hq];have e:(Sp.mv t (L++[m]) y).cD a q=(L6 (Sp.mv t L y) m p 0).cD a q:=by
  show(if a∈L++[m]/\t.cD a q=y+1 then 0 else t.cD a q)=if a=m/\q=p then 0 else(if a∈L/\t.cD a q=y+1 then 0 else t.cD a q);grind
 rw[e];rfl
end
theorem wM(b:Nat)(z x:Int)(t:T)(w:bD)(h:Tb bE w b t)(k:Sp.iX t z x≠0):
  Calls prog 142 #[ai (bB ⟨b,0,bC⟩),aa bf z,aa bf x] w λe w'=>e=bw (ao #[aa bf 0,bS (Sp.iX t z x)])/\w'=w:=by
 have HF:=hJ h;have HW:=hJ k;go_in
 go_wp2_with fail
 refine sC (kS b z x t _ HF.v) ?_;rintro w1 hw;subst w1;rw[bP HW.v];go_wp2
 go_ret2
 rw[bP HW.v];exact⟨rfl,rfl⟩
theorem wL(b n y:Nat)(t:T)(w:bD)(h:Tb bE w b t)(k:Sp.iX t n y=0)(hy:y<20)(ho:t.of y≠0):
  Calls prog 142 #[ai (bB ⟨b,0,bC⟩),aa bf n,aa bf y] w λe w'=>e=bw (ao #[aa bf 0,bS 3])/\w'=w:=by
 have HF:=hJ h;have HK:=hJ k;have c:=h.Pv y hy;have hyI:(y:Int)<20:=bG
 obtain⟨v,hv⟩:=hU ((t.of y:Int)-1);have v0:(v== -1)=bF:=by simp;omega
 rw[hv]at c;go_in
 go_wp2_with fail
 refine sC (kS b n y t _ HF.v) ?_;rintro w1 hw;subst w1;rw[HK.v,bN];go_wp2
 go_ret2
 exact⟨rfl,rfl⟩
theorem Nb(b n y:Nat)(t:T)(d:Nat->Nat)(w:bD)(h:Tb bE w b t)(hI:Sp.Inv t d)(k:Sp.iX t n y=0)(hn:n<6)(hh:t.here n=bE)(hy:y<20)(ho:t.of y=0):
  Calls prog 142 #[ai (bB ⟨b,0,bC⟩),aa bf n,aa bf y] w λe w'=>e=bw (ao #[aa bf (vb (Sp.nR t (Sp.W t n) n y) n y),bS 0])/\Tb bE w' b (Sp.nR t (Sp.W t n) n y)/\bO b w w':=by
 have HF:=hJ h;have HI:=hJ hI;have HK:=hJ k;have HH:=hJ (aK hh ho);have c:=h.Pv y hy;rw[ho]at c;have c':w.cell? ⟨b,138+y,bC⟩=bB (aa bf (-1)):=c;have cf:=h.frozen;have hyI:(y:Int)<20:=bG
 have hnI:(n:Int)<6:=bG
 have S0:Hid (Tb bE (w.setCell ⟨b,138+y,bC⟩ (aa bf (n:Int))) b (Sp.nR t [] n y)/\bO b w (w.setCell ⟨b,138+y,bC⟩ (aa bf (n:Int)))):=hJ ⟨Kd h hy,(bO.refl b w).setCell _ _⟩;go_in
 go_wp2_with fail
 refine sC (kS b n y t _ HF.v) ?_;rintro w1 hw;subst w1;rw[HK.v,bN];go_wp2_with fail
 refine cR (λW=>Tb bE W b (Sp.nR t [] n y)/\bO b w W) S0.v ?_;rintro W1 ⟨h1,f1⟩;have S1:=hJ (aK h1 f1);go_loopw [9] (λi wr=>∃(z:Int) (L:List Nat),i=aa bf z/\Hid (Tb bE wr b (Sp.nR t L n y)/\bO b w wr/\L++Sp.W t z=Sp.W t n/\(z= -1\/∃m:Nat,z=m/\m<6/\t.here m=bE))) (λi _=>(Sp.W t (intOf i)).length)
 case atStart=>exact⟨n,[],rfl,S1.1,S1.2,rfl, .inr ⟨n,rfl,hn,HH.1⟩⟩
 case round=>
  obtain⟨z,L,rfl,S⟩:=hrel;rcases S.2.2.2 with rfl|⟨m,rfl,hm,hmh⟩
  .have HE:Hid (L=Sp.W t n):=hJ (by have:=S.2.2.1;rw[Sp.pT t (-1) bG,List.append_nil]at this;exact this);have S2:Hid (Tb bE wr b (Sp.nR t (Sp.W t n) n y)/\bO b w wr):=hJ (by rw[<-HE.v];exact⟨S.1,S.2.1⟩);have h0:Hid ((Sp.nR t (Sp.W t n) n y).cD n 0=0):=hJ (by
    show(if n∈Sp.W t n/\0=Sp.low t n then y+1 else t.cD n 0)=0;have:=(HI.low hy HH.2 hn).1;rw[aI (λc=>bG)];exact HI.qQ n hn)
   go_wp2_with fail
   refine sC (An b n y _ _ S2.1 hn HH.1 h0.v) ?_;rintro w1 hw;subst w1;go_wp2
   go_ret2
   exact⟨rfl,S2.v⟩
  .have HMH:=hJ hmh;have ST:=hJ (HI.tree.step hm hmh);have PC:=hJ (HI.tree.ix hm hmh);have LW:=hJ (HI.low hy HH.2 hm);have hmI:(m:Int)<6:=bG
   have hne:=v7 m;have NM:Hid (m∉L):=hJ (λc=>by
    have nd:=HI.tree.nodup hn HH.1;rw[<-S.2.2.1,ST.v]at nd;exact(List.nodup_append.1 nd).2.2 m c m (by simp) rfl)
   have SW:Hid (∀p,(Sp.nR t L n y).cD m p=t.cD m p):=hJ (λp=>by
    show(if m∈L/\p=Sp.low t m then y+1 else t.cD m p)=t.cD m p;rw[aI (λc=>NM.v c.1)])
   go_wp2_with fail
   obtain⟨l,hl⟩:=hU (Sp.low t m);have HL:=hJ hl;have hl21:(l:Int)<21:=by have:=LW.2.1;omega
   go_region_held3 (λ_=>True) (trivial) ((go_at_call 221;refine sC (Np b m _ _ S.1.drew hm HMH.v ⟨Sp.low t m,LW.1,LW.2.1,by rw[SW.v];exact LW.2.2.1⟩) ?_;rintro w2 hw2;rw[Sp.Oc SW.v,HL.v];subst hw2;have q1:=S.1.drew.Hr m l hm (by have:=LW.2.1;rw[HL.v]at this;exact this);have qf:=S.1.drew.frozen))
   generalize hW2:World.drew _=W2;have S2:Hid (Tb bE W2 b (Sp.nR t (L++[m]) n y)/\bO b w W2):=hJ (by
    rw[<-hW2,<-HL.v];exact⟨(SV S.1 hm HMH.v LW.2.1).drew,(S.2.1.setCell _ _).drew⟩)
   have c1:W2.cell? ⟨b,m*23+1,bC⟩=bB (aa bf (t.par m)):=S2.1.uA m hm;go_wp2
   go_roundw
   case rel=>
    refine⟨t.par m,L++[m],by first|rfl|trivial,S2.1,S2.2,?_,?_⟩
    .have:=S.2.2.1;rw[ST.v]at this;rw[<-this];simp
    .rcases PC.v with⟨_,e,_⟩|⟨p,p1,p2,p3,_⟩
     .exact .inl e
     .exact .inr ⟨p,p2,p1,p3⟩
   case measure=>
    simp only[intOf];rw[ST.v,List.length_cons];omega
theorem JZ(b:Nat)(z x:Int)(t:T)(d:Nat->Nat)(w:bD)(h:Tb bE w b t)(hI:Sp.Inv t d):
  Calls prog 142 #[ai (bB ⟨b,0,bC⟩),aa bf z,aa bf x] w λe w'=>e=bw (ao #[aa bf (Sp.uH t z x:Int),bS (Sp.mr t z x)])/\Tb bE w' b (Sp.fO t z x)/\bO b w w':=by
 by_cases k:Sp.iX t z x=0
 .obtain⟨n,y,rfl,rfl,hn,hy,hh⟩:=Sp.tD k;by_cases ho:t.of y=0
  .have e1:Sp.mr t n y=0:=by unfold Sp.mr;rw[aJ k,hZ,aJ ho]
   have e3:Sp.fO t n y=Sp.nR t (Sp.W t n) n y:=by unfold Sp.fO;rw[e1,aJ rfl,hZ,hZ];rfl
   have e2:Sp.uH t n y=Sp.iE (Sp.nR t (Sp.W t n) n y) n y:=by unfold Sp.uH;rw[e1,aJ rfl,e3,hZ,hZ]
   have i2:=hI.enter n y;rw[e3]at i2;have hp:=i2.pid (n:=n) (x:=y) hn ⟨Sp.low t n,(hI.low hy ho hn).2.1,by
    show(if n∈Sp.W t n/\Sp.low t n=Sp.low t n then y+1 else t.cD n (Sp.low t n))=y+1;rw[aJ ⟨by rw[hI.tree.step hn hh];simp,rfl⟩]⟩
   grind [Nb,vb,wL,bO.refl,wM]
  .have e1:Sp.mr t n y=3:=by unfold Sp.mr;rw[aJ k,hZ,aI ho]
   have e3:Sp.fO t n y=t:=by unfold Sp.fO;rw[e1];rfl
   have e2:Sp.uH t n y=0:=by unfold Sp.uH;rw[e1];rfl
   refine(wL b n y t w h k hy ho).mono ?_;rintro e w' ⟨rfl,rfl⟩;rw[e1,e2,e3];exact⟨rfl,h,bO.refl _ _⟩
 .have e1:Sp.mr t z x=Sp.iX t z x:=by unfold Sp.mr;rw[aI k]
  have e3:Sp.fO t z x=t:=by unfold Sp.fO;rw[e1,aI k]
  have e2:Sp.uH t z x=0:=by unfold Sp.uH;rw[e1,aI k]
  refine(wM b z x t w h k).mono ?_;rintro e w' ⟨rfl,rfl⟩;rw[e1,e2,e3];exact⟨rfl,h,bO.refl _ _⟩
theorem Fp(b:Nat)(x:Int)(t:T)(w:bD)(h:Tb bE w b t)(k:Sp.mi t x≠0):
  Calls prog 152 #[ai (bB ⟨b,0,bC⟩),aa bf x] w λe w'=>e=bw (bS (Sp.mi t x))/\w'=w:=by
 have HF:=hJ h;have HW:=hJ k;go_in
 go_wp2_with fail
 refine sC (DP b x t _ HF.v) ?_;rintro w1 hw;subst w1;rw[bP HW.v];go_wp2
 go_ret
 rw[bP HW.v];exact⟨rfl,rfl⟩
theorem NY(b n y:Nat)(t:T)(d:Nat->Nat)(w:bD)(h:Tb bE w b t)(hI:Sp.Inv t d)(k:Sp.mi t y=0)(hk:Sp.dV t y=n)(hn:n<6)(hh:t.here n=bE)(hy:y<20)(ho:t.of y=n+1):
  Calls prog 152 #[ai (bB ⟨b,0,bC⟩),aa bf y] w λe w'=>e=bw (bS 0)/\Tb bE w' b (Sp.mv t (Sp.W t n) y)/\bO b w w':=by
 have HF:=hJ h;have HI:=hJ hI;have HK:=hJ (aK k hk);have HH:=hJ (aK hh ho);have c:=h.Pv y hy;have cf:=h.frozen;have hyI:(y:Int)<20:=bG
 have hnI:(n:Int)<6:=bG
 have S0:Hid (Tb bE (w.setCell ⟨b,138+y,bC⟩ (aa bf (-1))) b (Sp.mv t [] y)/\bO b w (w.setCell ⟨b,138+y,bC⟩ (aa bf (-1)))):=hJ ⟨IW h hy,(bO.refl b w).setCell _ _⟩;go_in
 go_wp2_with fail
 refine sC (DP b y t _ HF.v) ?_;rintro w1 hw;subst w1;rw[HK.1,HK.2,bN];go_wp2_with fail
 refine cR (λW=>Tb bE W b (Sp.mv t [] y)/\bO b w W) S0.v ?_;rintro W1 ⟨h1,f1⟩;have S1:=hJ (aK h1 f1);go_loopw [7] (λi wr=>∃(z:Int) (L:List Nat),i=aa bf z/\Hid (Tb bE wr b (Sp.mv t L y)/\bO b w wr/\L++Sp.W t z=Sp.W t n/\(z= -1\/∃m:Nat,z=m/\m<6/\t.here m=bE))) (λi _=>(Sp.W t (intOf i)).length)
 case atStart=>exact⟨n,[],rfl,S1.1,S1.2,rfl, .inr ⟨n,rfl,hn,HH.1⟩⟩
 case round=>
  obtain⟨z,L,rfl,S⟩:=hrel;rcases S.2.2.2 with rfl|⟨m,rfl,hm,hmh⟩
  .have HE:Hid (L=Sp.W t n):=hJ (by have:=S.2.2.1;rw[Sp.pT t (-1) bG,List.append_nil]at this;exact this);have S2:Hid (Tb bE wr b (Sp.mv t (Sp.W t n) y)/\bO b w wr):=hJ (by rw[<-HE.v];exact⟨S.1,S.2.1⟩);go_wp2
   go_ret
   exact⟨rfl,S2.v⟩
  .have HMH:=hJ hmh;have ST:=hJ (HI.tree.step hm hmh);have PC:=hJ (HI.tree.ix hm hmh);have MW:Hid (m∈Sp.W t n):=hJ (by rw[<-S.2.2.1,ST.v];simp);have LW:=hJ (HI.pid (x:=y) hm ((HI.has m y hm hy).2 ⟨by rw[HH.2];omega,by rw[HH.2,aP];exact MW.v⟩));have hmI:(m:Int)<6:=bG
   have hne:=v7 m;have NM:Hid (m∉L):=hJ (λc=>by
    have nd:=HI.tree.nodup hn HH.1;rw[<-S.2.2.1,ST.v]at nd;exact(List.nodup_append.1 nd).2.2 m c m (by simp) rfl)
   have SW:Hid (∀p,(Sp.mv t L y).cD m p=t.cD m p):=hJ (λp=>by
    show(if m∈L/\t.cD m p=y+1 then 0 else t.cD m p)=t.cD m p;rw[aI (λc=>NM.v c.1)])
   go_wp2_with fail
   obtain⟨l,hl⟩:=hU (Sp.iE t m y);have HL:=hJ hl;have hl21:(l:Int)<21:=by have:=LW.2.1;omega
   go_region_held3 (λ_=>True) (trivial) ((go_at_call 222;refine sC (An b m y _ _ S.1.drew hm HMH.v (by rw[SW.v];exact HI.qQ m hm)) ?_;rintro w2 hw2;have hpi:vb (Sp.mv t L y) m y=(l:Int):=(by unfold vb;rw[Sp.IZ SW.v,HL.v,aI (by have:=LW.1;rw[HL.v]at this;exact this)]);rw[hpi];subst hw2;have q1:=S.1.drew.Hr m l hm (by have:=LW.2.1;rw[HL.v]at this;exact this);have qf:=S.1.drew.frozen))
   generalize hW2:World.drew _=W2;have S2:Hid (Tb bE W2 b (Sp.mv t (L++[m]) y)/\bO b w W2):=hJ (by
    have lw:=LW.v;rw[HL.v]at lw;rw[<-hW2];exact⟨(Ra S.1 hm HMH.v lw.2.1 lw.2.2 (λq hq e=>HI.one m q l hm hq lw.2.1 (by rw[e,lw.2.2]) (by rw[e];omega))).drew,(S.2.1.setCell _ _).drew⟩)
   have c1:W2.cell? ⟨b,m*23+1,bC⟩=bB (aa bf (t.par m)):=S2.1.uA m hm;go_wp2
   go_roundw
   case rel=>
    refine⟨t.par m,L++[m],by first|rfl|trivial,S2.1,S2.2,?_,?_⟩
    .have:=S.2.2.1;rw[ST.v]at this;rw[<-this];simp
    .rcases PC.v with⟨_,e,_⟩|⟨p,p1,p2,p3,_⟩
     .exact .inl e
     .exact .inr ⟨p,p2,p1,p3⟩
   case measure=>
    simp only[intOf];rw[ST.v,List.length_cons];omega
theorem KV(b:Nat)(x:Int)(t:T)(d:Nat->Nat)(w:bD)(h:Tb bE w b t)(hI:Sp.Inv t d):
  Calls prog 152 #[ai (bB ⟨b,0,bC⟩),aa bf x] w λe w'=>e=bw (bS (Sp.mi t x))/\Tb bE w' b (Sp.dP t x)/\bO b w w':=by
 by_cases k:Sp.mi t x=0
 .obtain⟨y,rfl,hy,ho⟩:=Sp.Dh k;have o:=hI.pB y hy ho;have e2:Sp.dV t y=t.of y-1:=by unfold Sp.dV;rw[aJ k,hZ]
  refine(NY b (t.of y-1) y t d w h hI k e2 bG o.2 hy bG).mono ?_;rintro e w' ⟨rfl,h1,h2⟩;rw[k];refine⟨rfl,?_,h2⟩;unfold Sp.dP;rw[k,aJ rfl,hZ];refine h1.congr (gB (λa ha=>by rw[dq bE _ a ha,dq bE _ a ha];rfl) (λa ha=>by rw[dC bE _ a ha,dC bE _ a ha];rfl) (λa q ha hq=>?_) (λz hz=>by rw[dY,dY];rfl));rw[dD bE _ a q ha hq,dD bE _ a q ha hq];have e:(if a∈List.range 6/\t.cD a q=y+1 then 0 else t.cD a q)=(if a∈Sp.W t ((t.of y-1:Nat):Int)/\t.cD a q=y+1 then 0 else t.cD a q):=by
   by_cases c:t.cD a q=y+1
   .rw[aJ ⟨by simpa using ha,c⟩,aJ ⟨((hI.has a y ha hy).1 ⟨q,hq,c⟩).2,c⟩]
   grind
  show aa bf (cw bE (t.here a) (if a∈List.range 6/\t.cD a q=y+1 then 0 else t.cD a q))=aa bf (cw bE (t.here a) (if a∈Sp.W t ((t.of y-1:Nat):Int)/\t.cD a q=y+1 then 0 else t.cD a q));rw[e]
 .have e3:Sp.dP t x=t:=by unfold Sp.dP;rw[aI k]
  refine(Fp b x t w h k).mono ?_;rintro e w' ⟨rfl,rfl⟩;rw[e3];exact⟨rfl,h,bO.refl _ _⟩
