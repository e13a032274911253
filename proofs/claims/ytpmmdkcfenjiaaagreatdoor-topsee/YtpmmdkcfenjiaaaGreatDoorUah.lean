import Derived.Test.YtpmmdkcfenjiaaaGreatDoorUae
import Derived.Test.YtpmmdkcfenjiaaaGreatDoorUaf
set_option maxRecDepth 100000
set_option maxHeartbeats 1000000
set_option linter.unusedVariables false
set_option linter.unusedSimpArgs false
namespace Go.Proofs.YtpmmdkcfenjiaaaGreatDoor
open Value renaming int->aa,pointer->ai,slice->aj,tuple->ao,bool->ar,agg->au
open IntKind renaming i64->az
open Ending renaming returned->bf
open Obj renaming cells->bg
open Option renaming some->bh,none->bj
open Tryz (prog)
namespace Sp
structure T where
 here:Nat->Bool
 par:Nat->Int
 bR:Nat->Nat->Nat
 of:Nat->Nat
def uL(t:T):Nat->Int->List Nat
 |0,_=>[]
 |k+1,z=>if z<0 then[]else z.toNat::uL t k (t.par z.toNat)
def W(t:T)(z:Int):List Nat:=uL t 6 z
structure Tree (t:T)(d:Nat->Nat):Prop where
 root:t.here 0=true/\t.par 0= -1/\d 0=1
 up:∀n,0<n->n<6->t.here n=true->∃p:Nat,p<6/\t.par n=(p:Int)/\t.here p=true/\d n=d p+1
 le:∀n,n<6->t.here n=true->1<=d n/\d n<=4
section
variable {t:T}{d:Nat->Nat}
theorem nT(t:T)(k:Nat)(z:Int)(h:z<0):uL t k z=[]:=by cases k<;>simp[uL,h]
theorem rR(t:T)(k n:Nat):uL t (k+1) (n:Int)=n::uL t k (t.par n):=by
 simp only[uL];rw[nJ,hZ]
theorem Tree.gx(h:Tree t d){n:Nat}(hn:n<6)(hh:t.here n=true):(n=0/\t.par n= -1/\d n=1)\/∃p:Nat,p<6/\t.par n=(p:Int)/\t.here p=true/\d n=d p+1:=by
 by_cases e:n=0
 .subst e;exact .inl ⟨rfl,h.root.2⟩
 .exact .inr (h.up n bu hn hh)
theorem Tree.Ku(h:Tree t d):∀(k n:Nat),n<6->t.here n=true->d n<=k->uL t (k+1) (n:Int)=uL t k (n:Int)
 |0,n,hn,hh,hk=>aZ (h.le n hn hh).1 bu
 |k+1,n,hn,hh,hk=>by
  rw[rR,rR];rcases h.gx hn hh with⟨_,e,_⟩|⟨p,h1,e,h2,h3⟩
  .rw[e,nT _ _ _ bu,nT _ _ _ bu]
  .rw[e,h.Ku k p h1 h2 bu]
theorem Tree.step(h:Tree t d){n:Nat}(hn:n<6)(hh:t.here n=true):W t (n:Int)=n::W t (t.par n):=by
 unfold W;rw[rR];rcases h.gx hn hh with⟨_,e,_⟩|⟨p,h1,e,h2,h3⟩
 .rw[e,nT _ _ _ bu,nT _ _ _ bu]
 .rw[e,h.Ku 5 p h1 h2 (by have:=(h.le n hn hh).2;omega)]
theorem nV(t:T)(z:Int)(h:z<0):W t z=[]:=nT t 6 z h
theorem Tree.ind(h:Tree t d){P:Nat->Prop}(hP:∀n,n<6->t.here n=true->(∀p:Nat,p<6->t.here p=true->t.par n=(p:Int)->d n=d p+1->P p)->P n):∀n,n<6->t.here n=true->P n:=by
 have:∀k n,d n<=k->n<6->t.here n=true->P n:=by
  intro k
  induction k with
  |zero=>intro n h1 h2 h3;have:=(h.le n h2 h3).1;omega
  |succ k ih=>intro n h1 h2 h3;exact hP n h2 h3 (λp p1 p2 _ p4=>ih p bu p1 p2)
 exact λn=>this (d n) n (aL _)
theorem Tree.len(h:Tree t d){n:Nat}(hn:n<6)(hh:t.here n=true):(W t (n:Int)).length=d n:=by
 refine h.ind (P:=λn=>(W t (n:Int)).length=d n) (λn hn hh ih=>?_) n hn hh;show(W t (n:Int)).length=d n;rw[h.step hn hh];rcases h.gx hn hh with⟨_,e,e2⟩|⟨p,h1,e,h2,h3⟩
 .rw[e,nV _ _ bu,e2];rfl
 .rw[e,List.length_cons,ih p h1 h2 e h3,h3]
theorem Tree.mem(h:Tree t d){n:Nat}(hn:n<6)(hh:t.here n=true):∀x,x∈W t (n:Int)->x<6/\t.here x=true/\d x<=d n:=by
 refine h.ind (P:=λn=>∀x,x∈W t (n:Int)->x<6/\t.here x=true/\d x<=d n) (λn hn hh ih=>?_) n hn hh;intro x hx;rw[h.step hn hh]at hx;rcases List.mem_cons.1 hx with e|hx
 .subst e;exact⟨hn,hh,aL _⟩
 .rcases h.gx hn hh with⟨_,e,e2⟩|⟨p,h1,e,h2,h3⟩
  .rw[e,nV _ _ bu]at hx;cases hx
  .rw[e]at hx;have:=ih p h1 h2 e h3 x hx;exact⟨this.1,this.2.1,bu⟩
theorem Tree.nodup(h:Tree t d){n:Nat}(hn:n<6)(hh:t.here n=true):(W t (n:Int)).Nodup:=by
 refine h.ind (P:=λn=>(W t (n:Int)).Nodup) (λn hn hh ih=>?_) n hn hh;show(W t (n:Int)).Nodup;rw[h.step hn hh];rcases h.gx hn hh with⟨_,e,e2⟩|⟨p,h1,e,h2,h3⟩
 .rw[e,nV _ _ bu];simp
 .rw[e,List.nodup_cons];exact⟨λhm=>by have:=(h.mem h1 h2 n hm).2.2;omega,ih p h1 h2 e h3⟩
theorem xr{t t':T}(h:Tree t d)(hp:∀n,n<6->t.here n=true->t'.par n=t.par n){n:Nat}(hn:n<6)(hh:t.here n=true):W t' (n:Int)=W t (n:Int):=by
 have:∀k n,n<6->t.here n=true->uL t' k (n:Int)=uL t k (n:Int):=by
  intro k
  induction k with
  |zero=>intro n _ _;rfl
  |succ k ih=>
   intro n hn hh;rw[rR,rR,hp n hn hh];rcases h.gx hn hh with⟨_,e,_⟩|⟨p,h1,e,h2,h3⟩
   .rw[e,nT _ _ _ bu,nT _ _ _ bu]
   .rw[e,ih p h1 h2]
 exact this 6 n hn hh
end
structure Inv (t:T)(d:Nat->Nat):Prop where
 tree:Tree t d
 no:∀n,n<6->t.here n=false->t.par n=0
 ma:∀n,n<6->t.bR n 0=0
 oK:∀n p,n<6->p<21->t.bR n p<=20
 one:∀n p q,n<6->p<21->q<21->t.bR n p=t.bR n q->t.bR n p≠0->p=q
 has:∀n x,n<6->x<20->((∃p,p<21/\t.bR n p=x+1)↔(t.of x≠0/\n∈W t ((t.of x-1:Nat):Int)))
 oD:∀x,x<20->t.of x≠0->t.of x<=6/\t.here (t.of x-1)=true
def cD(t:T)(z:Int):Int:=if z<0\/6<=z then 1 else if t.here z.toNat=true then 0 else 2
def kG(z:Int):Int:=if z<0\/20<=z then 1 else 0
def fv(t:T):Nat:=((List.range 6).find? (λn=> !t.here n)).getD 6
def iZ(t:T)(z:Int):Int:=if cD t z=0 then(if 4<=(W t z).length then 7 else if fv t=6 then 4 else 0)else cD t z
def mJ(t:T)(z:Int):Nat:=if iZ t z=0 then fv t else 0
def te(f:Nat->Nat)(i v:Nat):Nat->Nat:=λj=>if j=i then v else f j
def fY(f:Nat->Int)(i:Nat)(v:Int):Nat->Int:=λj=>if j=i then v else f j
def mF(f:Nat->Bool)(i:Nat)(v:Bool):Nat->Bool:=λj=>if j=i then v else f j
def gd(t:T)(z:Int):T:=if iZ t z=0 then{t with here:=mF t.here (fv t) true,par:=fY t.par (fv t) z}else t
def iL(t:T)(n p:Nat):Bool:=decide (t.bR n p≠0)
def dX(t:T)(n:Nat):List Nat:=((List.range 21).filter (iL t n)).map (λp=>t.bR n p-1)
def tM(t:T)(n k:Nat):Bool:=t.here k&&decide (t.par k=(n:Int))
def kids(t:T)(n:Nat):Bool:=(List.range 6).any (tM t n)
def iJ(t:T)(z:Int):Int:=if cD t z=0 then(if z=0\/dX t z.toNat≠[]\/kids t z.toNat=true then 5 else 0)else cD t z
def gB(t:T)(z:Int):T:=if iJ t z=0 then{t with here:=mF t.here z.toNat false,par:=fY t.par z.toNat 0}else t
def tW(t:T)(n p:Nat):Bool:=decide (1<=p)&&decide (t.bR n p=0)
def low(t:T)(n:Nat):Nat:=((List.range 21).find? (tW t n)).getD 0
def ic(t:T)(z x:Int):Int:=if cD t z=0 then kG x else cD t z
def lD(t:T)(z x:Int):Int:=if ic t z x=0 then(if t.of x.toNat=0 then 0 else 3)else ic t z x
def CD(t:T)(L:List Nat)(x:Nat):T:={t with bR:=λn p=>if n∈L/\p=low t n then x+1 else t.bR n p}
def fK(t:T)(z x:Int):T:=if lD t z x=0 then{CD t (W t z) x.toNat with of:=te t.of x.toNat (z.toNat+1)}else t
def rA(t:T)(n x p:Nat):Bool:=decide (t.bR n p=x+1)
def gC(t:T)(n x:Nat):Nat:=((List.range 21).find? (rA t n x)).getD 0
def tJ(t:T)(z x:Int):Nat:=if lD t z x=0 then gC (fK t z x) z.toNat x.toNat else 0
def lA(t:T)(x:Int):Int:=if kG x=0 then(if t.of x.toNat=0 then 2 else 0)else kG x
def dc(t:T)(x:Int):Nat:=if lA t x=0 then t.of x.toNat-1 else 0
def yX(t:T)(L:List Nat)(x:Nat):T:={t with bR:=λn p=>if n∈L/\t.bR n p=x+1 then 0 else t.bR n p}
def dC(t:T)(x:Int):T:=if lA t x=0 then{yX t (List.range 6) x.toNat with of:=te t.of x.toNat 0}else t
def sK(t:T)(x z:Int):Int:=if ic t z x=0 then(if gC t z.toNat x.toNat=0 then 2 else 0)else ic t z x
def gQ(t:T)(x z:Int):Nat:=if sK t x z=0 then gC t z.toNat x.toNat else 0
def fZ(t:T)(z p:Int):Int:=if cD t z=0 then(if p<1\/20<p\/t.bR z.toNat p.toNat=0 then 2 else 0)else cD t z
def eH(t:T)(z p:Int):Nat:=if fZ t z p=0 then t.bR z.toNat p.toNat-1 else 0
def t0:T:=⟨λn=>decide (n=0),λn=>if n=0 then -1 else 0,λ_ _=>0,λ_=>0⟩
theorem kY{P:Nat->Bool}{n i:Nat}(h:(List.range n).find? P=bh i):i<n/\P i=true/\∀j,j<i->P j=false:=by
 obtain⟨h1,L,M,h2,h3⟩:=List.find?_eq_some_iff_append.1 h;have hi:i<n:=by have:=List.mem_of_find?_eq_some h;simpa using this
 refine⟨hi,h1,λj hj=>?_⟩;have hl:L.length=i:=by
  have e1:(List.range n)[L.length]? =bh i:=by rw[h2];simp
  rw[List.getElem?_range (by have:=congrArg List.length h2;simp at this;omega)]at e1;exact Option.some.inj e1
 have hm:j∈L:=by
  have e:(List.range n)[j]? =L[j]? :=by rw[h2,List.getElem?_append_left bu]
  rw[List.getElem?_range bu]at e;exact bK e.symm
 have:=h3 j hm;simpa using this
theorem u7{P:Nat->Bool}{n i:Nat}(hi:i<n)(h:P i=true)(hl:∀j,j<i->P j=false):(List.range n).find? P=bh i:=by
 cases hf:(List.range n).find? P with
 |none=>
  have:=List.find?_eq_none.1 hf i (by simpa using hi);exact aZ h this
 |some k=>
  have:=kY hf;congr 1;by_cases e1:k<i
  .have:=hl k e1;rw[(kY hf).2.1]at this;cases this
  .by_cases e2:i<k
   .have:=(kY hf).2.2 i e2;rw[h]at this;cases this
   .omega
theorem Ex{P:Nat->Bool}{n:Nat}(h:∀j,j<n->P j=false):(List.range n).find? P=none:=by
 rw[List.find?_eq_none];intro j hj;rw[h j (by simpa using hj)];simp
theorem nD{t:T}{z:Int}(h:cD t z=0):∃n:Nat,z=n/\n<6/\t.here n=true:=by
 unfold cD at h;by_cases k:z<0\/6<=z
 .rw[aJ k]at h;omega
 .obtain⟨n,rfl⟩:=aG (show 0<=z by omega);rw[aI k,hZ]at h;refine⟨n,rfl,bu,?_⟩;by_cases c:t.here n=true
  .exact c
  .rw[aI c]at h;omega
theorem gw{t:T}{n:Nat}(hn:n<6)(hh:t.here n=true):cD t n=0:=by
 unfold cD;rw[nJ,hZ,aJ hh]
theorem xW{z:Int}(h:kG z=0):∃n:Nat,z=n/\n<20:=by
 unfold kG at h;by_cases k:z<0\/20<=z
 .rw[aJ k]at h;omega
 .exact⟨z.toNat,bu,bu⟩
theorem oE{n:Nat}(hn:n<20):kG n=0:=by unfold kG;rw[nJ]
theorem sI{t:T}{z x:Int}(h:ic t z x=0):∃n k:Nat,z=n/\x=k/\n<6/\k<20/\t.here n=true:=by
 unfold ic at h;by_cases k:cD t z=0
 .rw[aJ k]at h;obtain⟨n,rfl,h1,h2⟩:=nD k;obtain⟨m,rfl,h3⟩:=xW h;exact⟨n,m,rfl,rfl,h1,h3,h2⟩
 .rw[aI k]at h;exact aZ h k
theorem LH{t:T}(h:fv t≠6):fv t<6/\t.here (fv t)=false/\∀j,j<fv t->t.here j=true:=by
 unfold fv at*;cases hf:(List.range 6).find? (λn=> !t.here n)with
 |none=>rw[hf]at h;exact aZ rfl h
 |some k=>
  have:=kY hf;refine⟨this.1,?_,λj hj=>?_⟩
  .have:=this.2.1;simpa using this
  .have:=this.2.2 j hj;simpa using this
theorem LG{t:T}{n:Nat}(hn:n<6)(h:t.here n=false)(hl:∀j,j<n->t.here j=true):fv t=n:=by
 unfold fv;rw[u7 (P:=λn=> !t.here n) hn (by simp[h]) (λj hj=>by simp[hl j hj])];rfl
theorem LJ{t:T}(hl:∀j,j<6->t.here j=true):fv t=6:=by
 unfold fv;rw[Ex (P:=λn=> !t.here n) (λj hj=>by simp[hl j hj])];rfl
theorem qw{t:T}{z:Int}(h:iZ t z=0):∃n:Nat,z=n/\n<6/\t.here n=true/\(W t z).length<4/\fv t<6/\t.here (fv t)=false/\∀j,j<fv t->t.here j=true:=by
 unfold iZ at h;by_cases k:cD t z=0
 .rw[aJ k]at h;obtain⟨n,rfl,h1,h2⟩:=nD k;by_cases c:4<=(W t n).length
  .rw[aJ c]at h;omega
  .rw[aI c]at h;by_cases f:fv t=6
   .rw[aJ f]at h;omega
   .exact⟨n,rfl,h1,h2,bu,LH f⟩
 .rw[aI k]at h;exact aZ h k
theorem ym:Tree t0 (λ_=>1):=by
 refine⟨⟨rfl,rfl,rfl⟩,λn h0 _ hh=>?_,λn _ _=>⟨by omega,bu⟩⟩;simp[t0]at hh;omega
theorem wi:Inv t0 (λ_=>1):=by
 refine⟨ym,λn _ hh=>?_,λ_ _=>rfl,λ_ _ _ _=>aC _,λ_ _ _ _ _ _ _ h=>aZ rfl h,λn x _ _=>⟨λ⟨p,_,h⟩=>?_,λ⟨h,_⟩=>aZ rfl h⟩,λx _ h=>aZ rfl h⟩
 .simp[t0]at hh|-;exact λe=>aZ e hh
 .simp[t0]at h
theorem Inv.dead{t:T}{d:Nat->Nat}(h:Inv t d){n p:Nat}(hn:n<6)(hp:p<21)(hh:t.here n=false):t.bR n p=0:=by
 by_cases e:t.bR n p=0
 .exact e
 .have hl:=h.oK n p hn hp;have:=(h.has n (t.bR n p-1) hn bu).1 ⟨p,hp,bu⟩;have o:=h.oD (t.bR n p-1) bu this.1;have:=(h.tree.mem bu o.2 n this.2).2.1;rw[hh]at this;cases this
end Sp
namespace Sp
section
variable {t:T}{d:Nat->Nat}
theorem Inv.add(h:Inv t d)(z:Int):∃d',Inv (gd t z) d':=by
 unfold gd;by_cases k:iZ t z=0
 .rw[aJ k];obtain⟨n,rfl,hn,hh,hl,hf,hfh,_⟩:=qw k;rw[h.tree.len hn hh]at hl;generalize fv t=f at*;have fn:n≠f:=λe=>by rw[e,hfh]at hh;cases hh
  have f0:f≠0:=λe=>by rw[e,h.tree.root.1]at hfh;cases hfh
  have nf:∀m,t.here m=true->m≠f:=λm hm e=>by rw[e,hfh]at hm;cases hm
  obtain⟨t',et⟩:∃t':T,{t with here:=mF t.here f true,par:=fY t.par f n}=t':=⟨_,rfl⟩;have eh:∀m,t'.here m=if m=f then true else t.here m:=λm=>by rw[<-et];rfl
  have ep:∀m,t'.par m=if m=f then(n:Int)else t.par m:=λm=>by rw[<-et];rfl
  have ew:t'.bR=t.bR:=by rw[<-et]
  have eo:t'.of=t.of:=by rw[<-et]
  have hw:∀m,m<6->t.here m=true->W t' (m:Int)=W t (m:Int):=λm hm hmh=>xr h.tree (λm hm hh=>by rw[ep,aI (nf m hh)]) hm hmh;rw[et];refine⟨λm=>if m=f then d n+1 else d m,⟨⟨?_,λm m0 hm hmh=>?_,λm hm hmh=>?_⟩,λm hm hmh=>?_,by rw[ew];exact h.ma,by rw[ew];exact h.oK,by rw[ew];exact h.one,λm x hm hx=>?_,λx hx hx0=>?_⟩⟩
  .refine⟨?_,?_,?_⟩
   .rw[eh];split
    .rfl
    .exact h.tree.root.1
   .rw[ep,aI (bQ f0)];exact h.tree.root.2.1
   .show(if 0=f then d n+1 else d 0)=1;rw[aI (bQ f0)];exact h.tree.root.2.2
  .show∃p:Nat,p<6/\t'.par m=(p:Int)/\t'.here p=true/\(if m=f then d n+1 else d m)=(if p=f then d n+1 else d p)+1;by_cases e:m=f
   .subst e;refine⟨n,hn,by rw[ep,aJ rfl],by rw[eh,aI fn];exact hh,by rw[aJ rfl,aI fn]⟩
   .rw[eh,aI e]at hmh;obtain⟨p,p1,p2,p3,p4⟩:=h.tree.up m m0 hm hmh;grind
  .show 1<=(if m=f then d n+1 else d m)/\(if m=f then d n+1 else d m)<=4;by_cases e:m=f
   .rw[aJ e];omega
   .rw[aI e];rw[eh,aI e]at hmh;exact h.tree.le m hm hmh
  .rw[eh]at hmh;by_cases e:m=f
   .rw[aJ e]at hmh;cases hmh
   .rw[aI e]at hmh;rw[ep,aI e];exact h.no m hm hmh
  .rw[ew,eo,h.has m x hm hx];constructor
   .rintro⟨h1,h2⟩;have o:=h.oD x hx h1;exact⟨h1,by rw[hw _ bu o.2];exact h2⟩
   .rintro⟨h1,h2⟩;have o:=h.oD x hx h1;exact⟨h1,by rw[hw _ bu o.2]at h2;exact h2⟩
  .rw[eo]at hx0|-;have o:=h.oD x hx hx0;exact⟨o.1,by rw[eh];split;rfl;exact o.2⟩
 .rw[aI k];exact⟨d,h⟩
theorem Cr{n:Nat}(h:dX t n=[])(p:Nat)(hp:p<21):t.bR n p=0:=by
 have h1:=List.map_eq_nil_iff.1 h;have:=List.filter_eq_nil_iff.1 h1 p (by simpa using hp);simpa[iL]using this
theorem Pt{n:Nat}(h:kids t n=false)(k:Nat)(hk:k<6)(hh:t.here k=true):t.par k≠(n:Int):=λe=>by
 have:kids t n=true:=by unfold kids;rw[List.any_eq_true];exact⟨k,by simpa using hk,by unfold tM;rw[hh,e];simp⟩
 grind
theorem Gl{z:Int}(h:iJ t z=0):∃n:Nat,z=n/\n≠0/\n<6/\t.here n=true/\dX t n=[]/\kids t n=false:=by grind [iJ,cD,dX,kids]
theorem Inv.drop(h:Inv t d)(z:Int):Inv (gB t z) d:=by
 unfold gB;by_cases k:iJ t z=0
 .rw[aJ k];obtain⟨f,rfl,f0,hf,hfh,hm,hk⟩:=Gl k;rw[hZ];obtain⟨t',et⟩:∃t':T,{t with here:=mF t.here f false,par:=fY t.par f 0}=t':=⟨_,rfl⟩;have eh:∀m,t'.here m=if m=f then false else t.here m:=λm=>by rw[<-et];rfl
  have ep:∀m,t'.par m=if m=f then(0:Int)else t.par m:=λm=>by rw[<-et];rfl
  have ew:t'.bR=t.bR:=by rw[<-et]
  have eo:t'.of=t.of:=by rw[<-et]
  rw[et];have pn:∀m p:Nat,m<6->t.here m=true->t.par m=(p:Int)->p≠f:=λm p hm hh e c=>Pt hk m hm hh (by rw[e,c]);have tr:Tree t' d:=by
   refine⟨⟨by rw[eh,aI (bQ f0)];exact h.tree.root.1,by rw[ep,aI (bQ f0)];exact h.tree.root.2.1,h.tree.root.2.2⟩,λm m0 hm' hmh=>?_,λm hm' hmh=>?_⟩
   .rw[eh]at hmh;by_cases e:m=f
    .rw[aJ e]at hmh;cases hmh
    .rw[aI e]at hmh;obtain⟨p,p1,p2,p3,p4⟩:=h.tree.up m m0 hm' hmh;exact⟨p,p1,by rw[ep,aI e];exact p2,by rw[eh,aI (pn m p hm' hmh p2)];exact p3,p4⟩
   .rw[eh]at hmh;by_cases e:m=f
    .rw[aJ e]at hmh;cases hmh
    .rw[aI e]at hmh;exact h.tree.le m hm' hmh
  have hw:∀m,m<6->t'.here m=true->W t (m:Int)=W t' (m:Int):=λm hm' hmh=>xr tr (λk hk' hkh=>by
   rw[eh]at hkh;by_cases e:k=f
   .rw[aJ e]at hkh;cases hkh
   .rw[ep,aI e]) hm' hmh
  have of:∀x,x<20->t.of x≠0->t.of x-1≠f:=λx hx hx0 e=>by
   have o:=h.oD x hx hx0;have:t.of x-1∈W t ((t.of x-1:Nat):Int):=by rw[h.tree.step bu o.2];simp
   obtain⟨p,hp,hw⟩:=(h.has (t.of x-1) x bu hx).2 ⟨hx0,this⟩;rw[e,Cr hm p hp]at hw;omega
  refine⟨tr,λm hm' hmh=>?_,by rw[ew];exact h.ma,by rw[ew];exact h.oK,by rw[ew];exact h.one,λm x hm' hx=>?_,λx hx hx0=>?_⟩
  .rw[eh]at hmh;by_cases e:m=f
   .rw[ep,aJ e]
   .rw[aI e]at hmh;rw[ep,aI e];exact h.no m hm' hmh
  .rw[ew,eo,h.has m x hm' hx];constructor
   .rintro⟨h1,h2⟩;have o:=h.oD x hx h1;exact⟨h1,by rw[<-hw _ bu (by rw[eh,aI (of x hx h1)];exact o.2)];exact h2⟩
   .rintro⟨h1,h2⟩;have o:=h.oD x hx h1;grind
  .rw[eo]at hx0|-;have o:=h.oD x hx hx0;exact⟨o.1,by rw[eh,aI (of x hx hx0)];exact o.2⟩
 .rw[aI k];exact h
theorem tQ:∀(l m:List Nat),l.Nodup->(∀x∈l,x∈m)->l.length<=m.length
 |[],_,_,_=>aC _
 |a::t,m,hn,hs=>by
  have hn':=List.nodup_cons.1 hn;have:=tQ t (m.erase a) hn'.2 (λx hx=>(List.mem_erase_of_ne (show x≠a from λe=>hn'.1 (by rw[<-e];exact hx))).2 (hs x (by simp[hx])));grind
theorem Inv.room(h:Inv t d){x n:Nat}(hx:x<20)(h0:t.of x=0)(hn:n<6):∃p,1<=p/\p<21/\t.bR n p=0:=by
 refine Classical.byContradiction λhc=>?_;have hne:∀p,p<20->t.bR n (p+1)≠0:=λp hp e=>hc ⟨p+1,bu,bu,e⟩;have hl:((List.range 20).map (λp=>t.bR n (p+1)-1)).Nodup:=by
  rw[List.nodup_iff_pairwise_ne,List.pairwise_map];refine List.Pairwise.imp_of_mem ?_ (List.nodup_iff_pairwise_ne.1 List.nodup_range);intro a b ha hb hab e;have ha':a<20:=by simpa using ha
  have hb':b<20:=by simpa using hb
  have a0:=hne a ha';have b0:=hne b hb';have:=h.one n (a+1) (b+1) hn bu bu bu a0;omega
 have hs:∀y∈(List.range 20).map (λp=>t.bR n (p+1)-1),y∈(List.range 20).erase x:=by
  intro y hy;obtain⟨a,ha,rfl⟩:=List.mem_map.1 hy;have ha':a<20:=by simpa using ha
  have a0:=hne a ha';have al:=h.oK n (a+1) hn bu;rw[List.Nodup.mem_erase_iff List.nodup_range];refine⟨λe=>?_,by simp;omega⟩;have:=(h.has n x hn hx).1 ⟨a+1,bu,bu⟩;exact this.1 h0
 have hlen:=tQ _ _ hl hs;grind
theorem Inv.low(h:Inv t d){x n:Nat}(hx:x<20)(h0:t.of x=0)(hn:n<6):1<=Sp.low t n/\Sp.low t n<21/\t.bR n (Sp.low t n)=0/\∀q,1<=q->q<Sp.low t n->t.bR n q≠0:=by
 obtain⟨p,p1,p2,p3⟩:=h.room hx h0 hn;unfold Sp.low;cases hf:(List.range 21).find? (tW t n)with
 |none=>
  have:=List.find?_eq_none.1 hf p (by simpa using p2);exact aZ (by unfold tW;rw[p3];simp;omega) this
 |some k=>
  have:=kY hf;have h1:=this.2.1;unfold tW at h1;simp at h1;refine⟨h1.1,this.1,h1.2,λq q1 q2 e=>?_⟩;unfold tW at this;grind
theorem Rn{n p:Nat}(p1:1<=p)(p2:p<21)(h:t.bR n p=0)(hl:∀q,1<=q->q<p->t.bR n q≠0):Sp.low t n=p:=by
 unfold Sp.low;rw[u7 p2 (by unfold tW;rw[h];simp;omega) (λq hq=>by
  unfold tW;by_cases e:1<=q
  .grind
  .simp[e])]
 rfl
theorem IU{z x:Int}(h:lD t z x=0):∃n k:Nat,z=n/\x=k/\n<6/\k<20/\t.here n=true/\t.of k=0:=by grind [lD,ic,sI]
theorem Inv.enter(h:Inv t d)(z x:Int):Inv (fK t z x) d:=by
 unfold fK;by_cases k:lD t z x=0
 .rw[aJ k];obtain⟨n,y,rfl,rfl,hn,hy,hh,h0⟩:=IU k;rw[hZ,hZ];obtain⟨t',et⟩:∃t':T,{CD t (W t n) y with of:=te t.of y (n+1)}=t':=⟨_,rfl⟩;have eh:t'.here=t.here:=by rw[<-et];rfl
  have ep:t'.par=t.par:=by rw[<-et];rfl
  have ew:∀m p,t'.bR m p=if m∈W t n/\p=Sp.low t m then y+1 else t.bR m p:=λm p=>by rw[<-et];rfl
  have eo:∀u,t'.of u=if u=y then n+1 else t.of u:=λu=>by rw[<-et];rfl
  rw[et];have hw:∀m,m<6->t.here m=true->W t' (m:Int)=W t (m:Int):=λm hm hmh=>xr h.tree (λk _ _=>by rw[ep]) hm hmh;have lw:∀m,m<6->_:=λm hm=>h.low (n:=m) hy h0 hm;have free:∀m p,m<6->p<21->t.bR m p≠y+1:=λm p hm hp e=>((h.has m y hm hy).1 ⟨p,hp,e⟩).1 h0;refine⟨⟨by rw[eh,ep];exact h.tree.root,by rw[eh,ep];exact h.tree.up,by rw[eh];exact h.tree.le⟩,by rw[eh,ep];exact h.no,λm hm=>?_,λm p hm hp=>?_,λm p q hm hp hq e e0=>?_,λm u hm hu=>?_,λu hu u0=>?_⟩
  .rw[ew,aI (λc=>by have:=(lw m hm).1;omega)];exact h.ma m hm
  .rw[ew];split
   .omega
   .exact h.oK m p hm hp
  .rw[ew]at e e0;rw[ew m q]at e;by_cases c:m∈W t n/\p=Sp.low t m
   .rw[aJ c]at e e0;by_cases c2:m∈W t n/\q=Sp.low t m
    .rw[c.2,c2.2]
    .rw[aI c2]at e;exact aZ e.symm (free m q hm hq)
   .rw[aI c]at e e0;by_cases c2:m∈W t n/\q=Sp.low t m
    .rw[aJ c2]at e;exact aZ e (free m p hm hp)
    .rw[aI c2]at e;exact h.one m p q hm hp hq e e0
  .rw[eo];by_cases e:u=y
   .subst e;grind
   .rw[aI e];have hm':(∃p,p<21/\t'.bR m p=u+1)↔(∃p,p<21/\t.bR m p=u+1):=by
     constructor
     .rintro⟨p,hp,e2⟩;rw[ew]at e2;by_cases c:m∈W t n/\p=Sp.low t m
      .rw[aJ c]at e2;omega
      .rw[aI c]at e2;exact⟨p,hp,e2⟩
     .rintro⟨p,hp,e2⟩;refine⟨p,hp,?_⟩;rw[ew,aI (λc=>by rw[c.2,(lw m hm).2.2.1]at e2;omega)];exact e2
    rw[hm',h.has m u hm hu];constructor
    .rintro⟨h1,h2⟩;have o:=h.oD u hu h1;exact⟨h1,by rw[hw _ bu o.2];exact h2⟩
    .rintro⟨h1,h2⟩;have o:=h.oD u hu h1;exact⟨h1,by rw[hw _ bu o.2]at h2;exact h2⟩
  .rw[eo]at u0|-;rw[eh];by_cases e:u=y
   .rw[aJ e];exact⟨by omega,by rw[aP];exact hh⟩
   .rw[aI e]at u0|-;exact h.oD u hu u0
 .rw[aI k];exact h
theorem BO{x:Int}(h:lA t x=0):∃k:Nat,x=k/\k<20/\t.of k≠0:=by grind [lA,kG]
theorem Inv.leave(h:Inv t d)(x:Int):Inv (dC t x) d:=by
 unfold dC;by_cases k:lA t x=0
 .rw[aJ k];obtain⟨y,rfl,hy,h0⟩:=BO k;rw[hZ];obtain⟨t',et⟩:∃t':T,{yX t (List.range 6) y with of:=te t.of y 0}=t':=⟨_,rfl⟩;have eh:t'.here=t.here:=by rw[<-et];rfl
  have ep:t'.par=t.par:=by rw[<-et];rfl
  have ew:∀m p,m<6->t'.bR m p=if t.bR m p=y+1 then 0 else t.bR m p:=λm p hm=>by rw[<-et];simp[yX,hm]
  have eo:∀u,t'.of u=if u=y then 0 else t.of u:=λu=>by rw[<-et];rfl
  rw[et];have hw:∀m,m<6->t.here m=true->W t' (m:Int)=W t (m:Int):=λm hm hmh=>xr h.tree (λk _ _=>by rw[ep]) hm hmh;refine⟨⟨by rw[eh,ep];exact h.tree.root,by rw[eh,ep];exact h.tree.up,by rw[eh];exact h.tree.le⟩,by rw[eh,ep];exact h.no,λm hm=>?_,λm p hm hp=>?_,λm p q hm hp hq e e0=>?_,λm u hm hu=>?_,λu hu u0=>?_⟩
  .rw[ew _ _ hm,h.ma m hm];rfl
  .rw[ew _ _ hm];split
   .omega
   .exact h.oK m p hm hp
  .rw[ew _ _ hm]at e e0;rw[ew _ q hm]at e;by_cases c:t.bR m p=y+1
   .rw[aJ c]at e0;exact aZ rfl e0
   .rw[aI c]at e e0;by_cases c2:t.bR m q=y+1
    .rw[aJ c2]at e;exact aZ e e0
    .rw[aI c2]at e;exact h.one m p q hm hp hq e e0
  .rw[eo];by_cases e:u=y
   .subst e;rw[aJ rfl];constructor
    .rintro⟨p,hp,e⟩;rw[ew _ _ hm]at e;by_cases c:t.bR m p=u+1
     .rw[aJ c]at e;omega
     .rw[aI c]at e;exact aZ e c
    .rintro⟨c,_⟩;exact aZ rfl c
   .rw[aI e];have hm':(∃p,p<21/\t'.bR m p=u+1)↔(∃p,p<21/\t.bR m p=u+1):=by grind
    rw[hm',h.has m u hm hu];constructor
    .rintro⟨h1,h2⟩;have o:=h.oD u hu h1;exact⟨h1,by rw[hw _ bu o.2];exact h2⟩
    .rintro⟨h1,h2⟩;have o:=h.oD u hu h1;exact⟨h1,by rw[hw _ bu o.2]at h2;exact h2⟩
  .rw[eo]at u0|-;rw[eh];by_cases e:u=y
   .rw[aJ e]at u0;exact aZ rfl u0
   .rw[aI e]at u0|-;exact h.oD u hu u0
 .rw[aI k];exact h
end
end Sp
open Go.RowKit
open Sp (T)
def Tz(c:Bool):TypeId:=if c then 181 else 100000
def cw(c h:Bool)(v:Nat):Int:=if c then(if h then(v:Int)-1 else 0)else v
def co(c:Bool)(v:Nat):Int:=if c then(v:Int)-1 else v
def jQ(c:Bool)(t:T)(o:Nat):Value:=
 if o<138 then(if o%23=0 then ar (t.here (o/23))else if o%23=1 then aa az (t.par (o/23))else aa az (cw c (t.here (o/23)) (t.bR (o/23) (o%23-2))))else aa az (co c (t.of (o-138)))
theorem cX(c:Bool)(t:T)(n:Nat)(hn:n<6):jQ c t (n*23)=ar (t.here n):=by
 unfold jQ;rw[nK,nK,show n*23/23=n by omega]
theorem dk(c:Bool)(t:T)(n:Nat)(hn:n<6):jQ c t (n*23+1)=aa az (t.par n):=by
 unfold jQ;rw[nK,nJ,nK,show(n*23+1)/23=n by omega]
theorem dm(c:Bool)(t:T)(n p:Nat)(hn:n<6)(hp:p<21):jQ c t (n*23+2+p)=aa az (cw c (t.here n) (t.bR n p)):=by
 unfold jQ;rw[nK,nJ,nJ,show(n*23+2+p)/23=n by omega,show(n*23+2+p)%23-2=p by omega]
theorem dM(c:Bool)(t:T)(x:Nat):jQ c t (138+x)=aa az (co c (t.of x)):=by
 unfold jQ;rw[nJ,show 138+x-138=x by omega]
theorem fR{P:Nat->Prop}(h1:∀n,n<6->P (n*23))(h2:∀n,n<6->P (n*23+1))(h3:∀n p,n<6->p<21->P (n*23+2+p))(h4:∀x,x<20->P (138+x))(o:Nat)(ho:o<158):P o:=by
 by_cases a:o<138
 .by_cases r0:o%23=0
  .have:=h1 (o/23) bu;rwa [show o/23*23=o by omega]at this
  .by_cases r1:o%23=1
   .have:=h2 (o/23) bu;rwa [show o/23*23+1=o by omega]at this
   .have:=h3 (o/23) (o%23-2) bu bu;rwa [show o/23*23+2+(o%23-2)=o by omega]at this
 .have:=h4 (o-138) bu;rwa [show 138+(o-138)=o by omega]at this
structure Tb (c:Bool)(w:bD)(b:Nat)(t:T):Prop where
 cU:∃C,w.heap[b]? =bh (bg C (Tz c) (0,0))/\C.size=158
 cell:∀o,o<158->w.cell? ⟨b,o,bj⟩=bh (jQ c t o)
section
variable {c:Bool}{w w':bD}{b:Nat}{t t':T}
theorem Tb.drew(h:Tb c w b t):Tb c w.drew b t:=⟨h.cU,h.cell⟩
theorem Tb.frozen(h:Tb c w b t)(o:Nat):w.frozen? ⟨b,o,bj⟩=false:=by obtain⟨C,h1,_⟩:=h.cU;exact cv h1 o
theorem Tb.lt(h:Tb c w b t):b<w.heap.size:=by obtain⟨C,h1,_⟩:=h.cU;exact(aX.1 h1).1
theorem Tb.same(h:Tb c w b t)(e:w'.heap[b]? =w.heap[b]?):Tb c w' b t:=⟨by rw[e];exact h.cU,λo ho=>(aV e).trans (h.cell o ho)⟩
theorem Tb.below(h:Tb c w b t)(k:Below w.heap.size w w'):Tb c w' b t:=h.same (k.block b h.lt)
theorem Tb.congr(h:Tb c w b t)(e:∀o,o<158->jQ c t' o=jQ c t o):Tb c w b t':=⟨h.cU,λo ho=>by rw[e o ho];exact h.cell o ho⟩
theorem Tb.Ge(h:Tb c w b t)(n:Nat)(hn:n<6):w.cell? ⟨b,n*23,bj⟩=bh (ar (t.here n)):=by rw[h.cell _ bu,cX c t n hn]
theorem Tb.sj(h:Tb c w b t)(n:Nat)(hn:n<6):w.cell? ⟨b,n*23+1,bj⟩=bh (aa az (t.par n)):=by rw[h.cell _ bu,dk c t n hn]
theorem Tb.Gf(h:Tb c w b t)(n p:Nat)(hn:n<6)(hp:p<21):w.cell? ⟨b,n*23+2+p,bj⟩=bh (aa az (cw c (t.here n) (t.bR n p))):=by rw[h.cell _ bu,dm c t n p hn hp]
theorem Tb.QJ(h:Tb c w b t)(x:Nat)(hx:x<20):w.cell? ⟨b,138+x,bj⟩=bh (aa az (co c (t.of x))):=by rw[h.cell _ bu,dM]
theorem Tb.Nz(h:Tb true w b t)(n p:Nat)(hn:n<6)(hp:p<21)(hh:t.here n=true):w.cell? ⟨b,n*23+2+p,bj⟩=bh (aa az ((t.bR n p:Int)-1)):=by rw[h.Gf n p hn hp,hh];rfl
theorem Tb.Oe(h:Tb true w b t)(x:Nat)(hx:x<20):w.cell? ⟨b,138+x,bj⟩=bh (aa az ((t.of x:Int)-1)):=by rw[h.QJ x hx];rfl
theorem Tb.set(h:Tb c w b t)(o:Nat)(ho:o<158)(v:Value)(hv:∀i,i<158->jQ c t' i=if i=o then v else jQ c t i):Tb c (w.setCell ⟨b,o,bj⟩ v) b t':=by
 obtain⟨C,h1,h2⟩:=h.cU;refine⟨⟨_,cE h1 _ v,by simpa using h2⟩,λi hi=>?_⟩;rw[hv i hi];by_cases e:i=o
 .subst e;rw[du h1 _ v bu,aJ rfl]
 .rw[da h1 _ _ v (bQ e),aI e];exact h.cell i hi
def Kl(t:T)(n p v:Nat):T:={t with bR:=λa q=>if a=n/\q=p then v else t.bR a q}
theorem Tb.JZ(h:Tb c w b t)(n p v:Nat)(hn:n<6)(hp:p<21):Tb c (w.setCell ⟨b,n*23+2+p,bj⟩ (aa az (cw c (t.here n) v))) b (Kl t n p v):=by
 refine h.set _ bu _ (fR (λm hm=>?_) (λm hm=>?_) (λm q hm hq=>?_) (λx hx=>?_))
 .rw[cX c _ m hm,cX c _ m hm,nJ];rfl
 .rw[dk c _ m hm,dk c _ m hm,nJ];rfl
 .rw[dm c _ m q hm hq,dm c _ m q hm hq];by_cases e:m=n/\q=p
  .obtain⟨rfl,rfl⟩:=e;rw[aJ rfl];simp[Kl]
  .rw[nJ];simp[Kl,e]
 .rw[dM,dM,nJ];rfl
theorem Tb.setOf(h:Tb c w b t)(x v:Nat)(hx:x<20):Tb c (w.setCell ⟨b,138+x,bj⟩ (aa az (co c v))) b {t with of:=Sp.te t.of x v}:=by
 refine h.set _ bu _ (fR (λm hm=>?_) (λm hm=>?_) (λm q hm hq=>?_) (λy hy=>?_))
 .rw[cX c _ m hm,cX c _ m hm,nJ]
 .rw[dk c _ m hm,dk c _ m hm,nJ]
 .rw[dm c _ m q hm hq,dm c _ m q hm hq,nJ]
 .rw[dM,dM];by_cases e:y=x
  .subst e;rw[aJ rfl];simp[Sp.te]
  .rw[nJ];simp[Sp.te,e]
end
def ed(hh:Bool)(p:Int)(f:Nat->Int):Array Value:=((List.range 23).map λi=>if i=0 then ar hh else if i=1 then aa az p else aa az (f (i-2))).toArray
theorem fc(hh:Bool)(p:Int)(f:Nat->Int):(ed hh p f).size=23:=by simp[ed]
theorem rK(hh:Bool)(p:Int)(f:Nat->Int):(ed hh p f).toList.length=23:=by simp[ed]
theorem mU(hh:Bool)(p:Int)(f:Nat->Int)(i:Nat)(h:i<23):(ed hh p f)[i]? =bh (if i=0 then ar hh else if i=1 then aa az p else aa az (f (i-2))):=by simp[ed,h]
theorem rL(hh:Bool)(p:Int)(f:Nat->Int):(ed hh p f).all (·.oneCell')=true:=by
 rw[Array.all_eq_true_iff_forall_mem];intro v hv;simp only[ed,List.mem_toArray,List.mem_map]at hv;obtain⟨i,_,rfl⟩:=hv;split
 .rfl
 .split<;>rfl
theorem Qi(hh:Bool)(p:Int)(f:Nat->Int)(i:Nat)(v:Int)(hi:i<21):(ed hh p f).setIfInBounds (2+i) (aa az v)=ed hh p (Sp.fY f i v):=by
 apply bL;intro j;rcases Nat.lt_or_ge j 23 with hj|hj
 .rw[mU _ _ _ j hj];by_cases e:j=2+i
  .subst e;rw[aE (by rw[fc];omega),nJ,nJ];simp[Sp.fY]
  .rw[aU bu,mU _ _ _ j hj];by_cases e0:j=0
   .rw[aJ e0,aJ e0]
   .by_cases e1:j=1
    .rw[aI e0,aJ e1,aI e0,aJ e1]
    .rw[aI e0,aI e1,aI e0,aI e1];unfold Sp.fY;rw[nJ]
 .rw[aR (by simp[ed];omega),aR (by rw[fc];omega)]
section
variable {c:Bool}{w:bD}{b:Nat}{t t':T}
theorem Tb.there(h:Tb c w b t)(n:Nat)(hn:n<6)(k:Nat)(hk:k=23):w.there b (n*23) k:=by
 obtain⟨C,h1,h2⟩:=h.cU;intro j hj;exact⟨by rw[bO h1,Array.getElem?_eq_getElem bu];rfl,cv h1 _⟩
theorem Tb.store(h:Tb c w b t)(n:Nat)(hn:n<6)(hh:Bool)(p:Int)(f:Nat->Int):(storeCells ⟨b,n*23,bj⟩ (ed hh p f).toList).run prog w= .ok () (w.setCells b (n*23) (ed hh p f).toList):=by
 have ht:=h.there n hn 23 rfl;have hs:=rK hh p f;have:=run_storeCells_cells (P:=prog) b (n*23) (ed hh p f).toList 0 w
  (λj hj=>by simpa using(ht j bu).1) (λj hj=>by simpa using(ht j bu).2)
  (λv hv=>(Array.all_eq_true_iff_forall_mem.1 (rL hh p f)) v (by simpa using hv))
 simp only[Nat.add_zero]at this;exact this
theorem Tb.wH(h:Tb c w b t)(n:Nat)(hn:n<6)(hh:Bool)(p:Int)(f:Nat->Int)(g:Nat->Nat)(hf:∀q,q<21->f q=cw c hh (g q)):
  Tb c (w.setCells b (n*23) (ed hh p f).toList) b {t with here:=Sp.mF t.here n hh,par:=Sp.fY t.par n p,bR:=λa q=>if a=n then g q else t.bR a q}:=by
 obtain⟨C,h1,h2⟩:=h.cU;have ht:=h.there n hn 23 rfl;have hs:=rK hh p f;obtain⟨C',k1,k2⟩:=dY b (ed hh p f).toList (n*23) w C h1;have hin:∀j,j<23->(w.setCells b (n*23) (ed hh p f).toList).cell? ⟨b,n*23+j,bj⟩=(ed hh p f)[j]? :=λj hj=>by
  rw[aS b (ed hh p f).toList (n*23) w (λi hi=>(ht i bu).1) j bu,<-aM,aW bu]
 have hout:∀i,i<n*23\/n*23+23<=i->(w.setCells b (n*23) (ed hh p f).toList).cell? ⟨b,i,bj⟩=w.cell? ⟨b,i,bj⟩:=λi hi=>by
  refine aA b _ (n*23) w ⟨b,i,bj⟩ (λ_ _=>?_);rw[hs];exact hi
 refine⟨⟨C',k1,bu⟩,fR (λm hm=>?_) (λm hm=>?_) (λm q hm hq=>?_) (λy hy=>?_)⟩
 .rw[cX c _ m hm];by_cases e:m=n
  .subst e;have:=hin 0 bu;rw[mU _ _ _ 0 bu]at this;rw[Nat.add_zero]at this;rw[this];simp[Sp.mF]
  .rw[hout _ bu,h.Ge m hm];simp[Sp.mF,e]
 .rw[dk c _ m hm];by_cases e:m=n
  .subst e;rw[hin 1 bu,mU _ _ _ 1 bu];simp[Sp.fY]
  .rw[hout _ bu,h.sj m hm];simp[Sp.fY,e]
 .rw[dm c _ m q hm hq];by_cases e:m=n
  .subst e;rw[show m*23+2+q=m*23+(2+q)by omega,hin (2+q) bu,mU _ _ _ (2+q) bu,nJ,nJ,show 2+q-2=q by omega,hf q hq];simp[Sp.mF]
  .rw[hout _ bu,h.Gf m q hm hq];simp[Sp.mF,e]
 .rw[dM,hout _ bu,h.QJ y hy]
end
theorem eF(b:Nat)(z:Int)(t:T)(w:bD)(h:Tb true w b t):Calls prog 136 #[ai (bh ⟨b,0,bj⟩),aa az z] w λe w'=>e=bf (bG (Sp.cD t z))/\w'=w:=by
 by_cases k:z<0\/6<=z
 .have e:Hid (Sp.cD t z=1):=hJ (aJ k);by_cases h0:z<0
  .clear k;go_in
   go_wp2
   go_ret
   rw[e.v];exact⟨rfl,rfl⟩
  .have h1:decide (z<0)=false:=by simp;omega
   have h2:6<=z:=bu
   go_in
   go_wp2
   go_ret
   rw[e.v];exact⟨rfl,rfl⟩
 .obtain⟨n,rfl⟩:=aG (show 0<=z by omega);have hn:n<6:=bu
  have h1:(n:Int)<6:=bu
  have h2:decide (6<=(n:Int))=false:=by simp;omega
  have c0:=h.Ge n hn;cases hh:t.here n
  .have e:Hid (Sp.cD t n=2):=hJ (by unfold Sp.cD;rw[aI k,hZ,hh];rfl);rw[hh]at c0;go_in
   go_wp2
   go_ret
   rw[e.v];exact⟨rfl,rfl⟩
  .have e:Hid (Sp.cD t n=0):=hJ (by unfold Sp.cD;rw[aI k,hZ,hh];rfl);rw[hh]at c0;go_in
   go_wp2
   go_ret
   rw[e.v];exact⟨rfl,rfl⟩
theorem lV(z:Int)(w:bD):Calls prog 215 #[aa az z] w λe w'=>e=bf (bG (Sp.kG z))/\w'=w:=by
 by_cases k:z<0\/20<=z
 .have e:Hid (Sp.kG z=1):=hJ (aJ k);by_cases h0:z<0
  .clear k;go_in
   go_wp2
   go_ret
   rw[e.v];exact⟨rfl,rfl⟩
  .have h1:decide (z<0)=false:=by simp;omega
   have h2:20<=z:=bu
   go_in
   go_wp2
   go_ret
   rw[e.v];exact⟨rfl,rfl⟩
 .have e:Hid (Sp.kG z=0):=hJ (aI k);have h1:decide (z<0)=false:=by simp;omega
  have h2:decide (20<=z)=false:=by simp;omega
  go_in
  go_wp2
  go_ret
  rw[e.v];exact⟨rfl,rfl⟩
theorem jY(b:Nat)(z x:Int)(t:T)(w:bD)(h:Tb true w b t):Calls prog 220 #[ai (bh ⟨b,0,bj⟩),aa az z,aa az x] w λe w'=>e=bf (bG (Sp.ic t z x))/\w'=w:=by
 have HF:=hJ h;by_cases k:Sp.cD t z=0
 .have HK:=hJ k;have HE:Hid (Sp.ic t z x=Sp.kG x):=hJ (aJ k);go_in
  go_wp2_with fail
  refine sC (eF b z t _ HF.v) ?_;rintro w1 hw;subst w1;rw[HK.v,bB];go_wp2_with fail
  refine sC (lV x _) ?_;rintro w1 hw;subst w1;go_wp2
  go_ret
  rw[HE.v];exact⟨rfl,rfl⟩
 .have HE:Hid (Sp.ic t z x=Sp.cD t z):=hJ (aI k);have HN:=hJ k;go_in
  go_wp2_with fail
  refine sC (eF b z t _ HF.v) ?_;rintro w1 hw;subst w1;rw[bC HN.v];go_wp2
  go_ret
  rw[HE.v,bC HN.v];exact⟨rfl,rfl⟩
theorem vb(n:Nat):((n:Int)== -1)=false:=by simp
theorem oz(b n:Nat)(t:T)(d:Nat->Nat)(w:bD)(h:Tb true w b t)(hT:Sp.Tree t d)(hn:n<6)(hh:t.here n=true):
  Calls prog 218 #[ai (bh ⟨b,0,bj⟩),aa az n] w λe w'=>e=bf (aa az (((Sp.W t n).length:Nat):Int))/\w'=w:=by
 have HF:=hJ h;have HT:=hJ hT;have HL:Hid ((Sp.W t n).length<=4):=hJ (by rw[hT.len hn hh];exact(hT.le n hn hh).2);have HH:=hJ hh;go_in
 go_wp2
 go_loopw [5,6] (λs i wr=>∃(k:Nat) (z:Int),s=aa az k/\i=aa az z/\wr=w/\Hid (k+(Sp.W t z).length=(Sp.W t n).length/\(z= -1\/∃m:Nat,z=m/\m<6/\t.here m=true))) (λ_ i _=>(Sp.W t (intOf i)).length)
 case atStart=>exact⟨0,n,rfl,rfl,rfl,bu, .inr ⟨n,rfl,hn,HH.v⟩⟩
 case round=>
  obtain⟨k,z,rfl,rfl,hw,HN⟩:=hrel;subst wr;rcases HN.2 with rfl|⟨m,rfl,hm,hmh⟩
  .have HE:Hid (k=(Sp.W t n).length):=hJ (by have:=HN.1;rw[Sp.nV t (-1) bu]at this;simpa using this);go_wp2
   go_ret
   rw[<-HE.v];exact⟨rfl,rfl⟩
  .have HMH:=hJ hmh;have ST:=hJ (HT.step hm hmh);have PC:=hJ (HT.gx hm hmh);have c1:=HF.sj m hm;have hmI:(m:Int)<6:=bu
   have hne:=vb m;have hk4:k<=4:=by have:=HN.1;have:=HL.v;omega
   go_wp2
   go_roundw
   case rel=>
    refine⟨k+1,t.par m,by go_num,by first|rfl|trivial,by first|rfl|trivial,?_,?_⟩
    .have:=HN.1;rw[ST.v,List.length_cons]at this;omega
    .rcases PC.v with⟨_,e,_⟩|⟨p,p1,p2,p3,_⟩
     .exact .inl e
     .exact .inr ⟨p,p2,p1,p3⟩
   case measure=>
    simp only[intOf];rw[ST.v,List.length_cons];omega
theorem Cw(b:Nat)(x:Int)(t:T)(w:bD)(h:Tb true w b t):Calls prog 137 #[ai (bh ⟨b,0,bj⟩),aa az x] w λe w'=>e=bf (ao #[aa az (Sp.dc t x:Int),bG (Sp.lA t x)])/\w'=w:=by
 by_cases k:Sp.kG x=0
 .have HK:=hJ k;obtain⟨n,rfl,hn⟩:=Sp.xW k;have hnI:(n:Int)<20:=bu
  have c:=h.Oe n hn;by_cases o:t.of n=0
  .have HE:Hid (Sp.lA t n=2):=hJ (by unfold Sp.lA;rw[aJ k,hZ,aJ o]);have HN:Hid (Sp.dc t n=0):=hJ (by unfold Sp.dc;rw[HE.v];rfl);rw[o]at c;have c':w.cell? ⟨b,138+n,bj⟩=bh (aa az (-1)):=c;go_in
   go_wp2_with fail
   refine sC (lV _ _) ?_;rintro w1 hw;subst w1;rw[HK.v,bB];go_wp2
   go_ret2
   rw[HE.v,HN.v];exact⟨rfl,rfl⟩
  .have HE:Hid (Sp.lA t n=0):=hJ (by unfold Sp.lA;rw[aJ k,hZ,aI o]);have HN:Hid ((Sp.dc t n:Int)=(t.of n:Int)-1):=hJ (by unfold Sp.dc;rw[HE.v,aJ rfl,hZ];omega);obtain⟨v,hv⟩:=hU ((t.of n:Int)-1);have v0:(v== -1)=false:=by simp;omega
   rw[hv]at c HN;go_in
   go_wp2_with fail
   refine sC (lV _ _) ?_;rintro w1 hw;subst w1;rw[HK.v,bB];go_wp2
   go_ret2
   rw[HE.v,HN.v];exact⟨rfl,rfl⟩
 .have HE:Hid (Sp.lA t x=Sp.kG x):=hJ (by unfold Sp.lA;rw[aI k]);have HN:Hid (Sp.dc t x=0):=hJ (by unfold Sp.dc;rw[HE.v,aI k]);have HW:=hJ k;go_in
  go_wp2_with fail
  refine sC (lV _ _) ?_;rintro w1 hw;subst w1;rw[bC HW.v];go_wp2
  go_ret2
  rw[HE.v,HN.v,bC HW.v];exact⟨rfl,rfl⟩
def QB(f:Nat->Int)(n:Nat)(v r:Int):Prop:=(∃i:Nat,i<n/\f i=v/\(∀j,j<i->f j≠v)/\r=i)\/((∀i,i<n->f i≠v)/\r= -1)
theorem zP(b o n cap:Nat)(f:Nat->Int)(v:Int)(w:bD)(h:∀i,i<n->w.cell? ⟨b,o+i,bj⟩=bh (aa az (f i)))(hn:n<=1000):
  Calls prog 268 #[aj (bh ⟨b,o,bj⟩) n cap,aa az v] w λe w'=>∃r,e=bf (aa az r)/\QB f n v r/\w'=w:=by
 have H:=hJ h;go_in
 go_wp2
 go_loopw [8] (λi wr=>∃(k:Nat),i=aa az k/\k<=n/\wr=w/\Hid (∀j,j<k->f j≠v)) (λi _=>n-(intOf i).toNat)
 case atStart=>exact⟨0,rfl,bu,rfl,λj hj=>bu⟩
 case round=>
  obtain⟨k,rfl,hk,hw,HN⟩:=hrel;subst wr;by_cases hlt:k<n
  .have hltI:(k:Int)<(n:Int):=bu
   have cc:=H.v k hlt;by_cases e:f k=v
   .have HE:=hJ e;rw[e]at cc;go_wp2
    go_ret
    exact⟨_,rfl, .inl ⟨k,hlt,HE.v,HN.v,rfl⟩,rfl⟩
   .have HE:=hJ e;generalize hf:f k=u at*;have HU:=hJ hf;have e1:(v==u)=false:=by simp;exact λc=>HE.v c.symm
    go_wp2
    go_roundw
    case rel=>exact⟨k+1,by go_num,bu,by first|rfl|trivial,λj hj=>by
     by_cases c:j=k
     .rw[c,HU.v];exact HE.v
     .exact HN.v j bu⟩
    case measure=>simp[intOf];omega
  .have hltI:¬(k:Int)<(n:Int):=bu
   go_wp2
   go_ret
   exact⟨_,rfl, .inr ⟨λi hi=>HN.v i bu,rfl⟩,rfl⟩
theorem Tb.row(w:bD)(b n:Nat)(t:T)(h:Tb true w b t)(hn:n<6)(hh:t.here n=true):∀i,i<21->w.cell? ⟨b,n*23+2+i,bj⟩=bh (aa az ((t.bR n i:Int)-1)):=λi hi=>h.Nz n i hn hi hh
def ug(t:T)(n x:Nat):Int:=if Sp.gC t n x=0 then -1 else(Sp.gC t n x:Int)
theorem PZ{t:T}{n x:Nat}{r:Int}(h0:t.bR n 0=0)(h:QB (λi=>(t.bR n i:Int)-1) 21 x r):r=ug t n x:=by
 unfold ug Sp.gC;rcases h with⟨i,hi,e,hl,rfl⟩|⟨hl,rfl⟩
 .have e':(t.bR n i:Int)-1=x:=e;rw[Sp.u7 (P:=Sp.rA t n x) hi (by unfold Sp.rA;simp;omega) (λj hj=>by have:(t.bR n j:Int)-1≠x:=hl j hj;unfold Sp.rA;simp;omega)];grind
 .rw[Sp.Ex (P:=Sp.rA t n x) (λj hj=>by have:(t.bR n j:Int)-1≠x:=hl j hj;unfold Sp.rA;simp;omega)];rfl
theorem zk(b n x:Nat)(t:T)(w:bD)(h:Tb true w b t)(hn:n<6)(hh:t.here n=true)(h0:t.bR n 0=0):
  Calls prog 222 #[ai (bh ⟨b,n*23,bj⟩),aa az x] w λe w'=>e=bf (aa az (ug t n x))/\w'=w:=by
 have HR:=hJ (Tb.row w b n t h hn hh);have H0:=hJ h0;go_in
 go_wp2_with fail
 refine(zP b (n*23+2) 21 21 (λi=>(t.bR n i:Int)-1) x _ HR.v bu).mono ?_;rintro e w1 ⟨r,rfl,hi,hw⟩;subst w1;rw[PZ H0.v hi];go_wp2
 go_ret
 exact⟨rfl,rfl⟩
theorem LR(b n:Nat)(t:T)(w:bD)(h:Tb true w b t)(hn:n<6)(hh:t.here n=true)(hr:∃p,1<=p/\p<21/\t.bR n p=0):
  Calls prog 221 #[ai (bh ⟨b,n*23,bj⟩)] w λe w'=>e=bf (aa az (Sp.low t n:Int))/\w'=w:=by
 have HR:Hid (∀i,i<20->w.cell? ⟨b,n*23+3+i,bj⟩=bh (aa az ((t.bR n (i+1):Int)-1))):=hJ (λi hi=>by
  have:=Tb.row w b n t h hn hh (i+1) bu;rw[show n*23+2+(i+1)=n*23+3+i by omega]at this;exact this)
 have HX:=hJ hr;go_in
 go_wp2_with fail
 refine(zP b (n*23+3) 20 20 (λi=>(t.bR n (i+1):Int)-1) (-1) _ HR.v bu).mono ?_;rintro e w1 ⟨r,rfl,hi,hw⟩;subst w1;obtain⟨k,hk,rfl,hlow⟩:∃k:Nat,k<20/\r=k/\Sp.low t n=k+1:=by
  rcases hi with⟨i,hi,e,hl,rfl⟩|⟨hl,rfl⟩
  .have e':(t.bR n (i+1):Int)-1= -1:=e;exact⟨i,hi,rfl,Sp.Rn bu bu bu (λq q1 q2 c=>by
    have:(t.bR n (q-1+1):Int)-1≠ -1:=hl (q-1) bu;rw[show q-1+1=q by omega,c]at this;exact this rfl)⟩
  .obtain⟨p,p1,p2,p3⟩:=HX.v;have:(t.bR n (p-1+1):Int)-1≠ -1:=hl (p-1) bu;rw[show p-1+1=p by omega,p3]at this;exact aZ rfl this
 have HL:=hJ hlow;have hk':(k:Int)<20:=bu
 go_wp2
 go_ret
 rw[HL.v];refine⟨?_,rfl⟩;go_num
theorem MU(b:Nat)(x z:Int)(t:T)(w:bD)(h:Tb true w b t)(h0:∀n,n<6->t.bR n 0=0):
  Calls prog 147 #[ai (bh ⟨b,0,bj⟩),aa az x,aa az z] w λe w'=>e=bf (ao #[aa az (Sp.gQ t x z:Int),bG (Sp.sK t x z)])/\w'=w:=by
 have HF:=hJ h;have H0:=hJ h0;by_cases k:Sp.ic t z x=0
 .have HK:=hJ k;obtain⟨n,y,rfl,rfl,hn,hy,hh⟩:=Sp.sI k;have HH:=hJ hh;have hnI:(n:Int)<6:=bu
  have HE:Hid (Sp.sK t y n=if Sp.gC t n y=0 then 2 else 0):=hJ (by unfold Sp.sK;rw[aJ k,hZ,hZ]);have HN:Hid (Sp.gQ t y n=Sp.gC t n y):=hJ (by
   unfold Sp.gQ;rw[HE.v];by_cases c:Sp.gC t n y=0
   .rw[aJ c,aI bA,c]
   .rw[aI c,aJ rfl,hZ,hZ])
  go_in
  go_wp2_with fail
  refine sC (jY b n y t _ HF.v) ?_;rintro w1 hw;subst w1;rw[HK.v,bB];go_wp2_with fail
  refine sC (zk b n y t _ HF.v hn HH.v (H0.v n hn)) ?_;rintro w1 hw;subst w1;unfold ug;by_cases c:Sp.gC t n y=0
  .have HC:=hJ c;rw[aJ c];go_wp2
   go_ret2
   rw[HE.v,HN.v,HC.v];exact⟨rfl,rfl⟩
  .have HC:=hJ c;rw[aI c];generalize hp:Sp.gC t n y=p at*;have hp1:decide ((p:Int)<1)=false:=by simp;omega
   go_wp2
   go_ret2
   rw[HE.v,HN.v,aI HC.v];exact⟨rfl,rfl⟩
 .have HE:Hid (Sp.sK t x z=Sp.ic t z x):=hJ (by unfold Sp.sK;rw[aI k]);have HN:Hid (Sp.gQ t x z=0):=hJ (by unfold Sp.gQ;rw[HE.v,aI k]);have HW:=hJ k;go_in
  go_wp2_with fail
  refine sC (jY b z x t _ HF.v) ?_;rintro w1 hw;subst w1;rw[bC HW.v];go_wp2
  go_ret2
  rw[HE.v,HN.v,bC HW.v];exact⟨rfl,rfl⟩
theorem BH(b:Nat)(z p:Int)(t:T)(w:bD)(h:Tb true w b t):
  Calls prog 61 #[ai (bh ⟨b,0,bj⟩),aa az z,aa az p] w λe w'=>e=bf (ao #[aa az (Sp.eH t z p:Int),bG (Sp.fZ t z p)])/\w'=w:=by
 have HF:=hJ h;by_cases k:Sp.cD t z=0
 .have HK:=hJ k;obtain⟨n,rfl,hn,hh⟩:=Sp.nD k;have hnI:(n:Int)<6:=bu
  by_cases hp:p<1\/20<p
  .have HE:Hid (Sp.fZ t n p=2):=hJ (by unfold Sp.fZ;rw[aJ k,nK]);have HN:Hid (Sp.eH t n p=0):=hJ (by unfold Sp.eH;rw[HE.v];rfl);by_cases p1:p<1
   .clear h k hh hp;go_in
    go_wp2_with fail
    refine sC (eF b n t _ HF.v) ?_;rintro w1 hw;subst w1;rw[HK.v,bB];go_wp2
    go_ret2
    rw[HE.v,HN.v];exact⟨rfl,rfl⟩
   .have p1':decide (p<1)=false:=by simp;omega
    have p2:21<=p:=bu
    go_in
    go_wp2_with fail
    refine sC (eF b n t _ HF.v) ?_;rintro w1 hw;subst w1;rw[HK.v,bB];go_wp2
    go_ret2
    rw[HE.v,HN.v];exact⟨rfl,rfl⟩
  .obtain⟨q,rfl⟩:=aG (show 0<=p by omega);have cc:=h.Nz n q hn bu hh;have q1:decide ((q:Int)<1)=false:=by simp;omega
   have q2:decide (21<=(q:Int))=false:=by simp;omega
   have q3:(q:Int)<21:=bu
   by_cases c:t.bR n q=0
   .have HE:Hid (Sp.fZ t n q=2):=hJ (by unfold Sp.fZ;rw[aJ k,hZ,hZ,aJ (.inr (.inr c))]);have HN:Hid (Sp.eH t n q=0):=hJ (by unfold Sp.eH;rw[HE.v];rfl);rw[c]at cc;have cc':w.cell? ⟨b,n*23+2+q,bj⟩=bh (aa az (-1)):=cc;go_in
    go_wp2_with fail
    refine sC (eF b n t _ HF.v) ?_;rintro w1 hw;subst w1;rw[HK.v,bB];go_wp2
    go_ret2
    rw[HE.v,HN.v];exact⟨rfl,rfl⟩
   .have HE:Hid (Sp.fZ t n q=0):=hJ (by unfold Sp.fZ;rw[aJ k,hZ,hZ,nJ]);have HN:Hid ((Sp.eH t n q:Int)=(t.bR n q:Int)-1):=hJ (by unfold Sp.eH;rw[HE.v,aJ rfl,hZ,hZ];omega);obtain⟨v,hv⟩:=hU ((t.bR n q:Int)-1);have v0:(v== -1)=false:=by simp;omega
    rw[hv]at cc HN;go_in
    go_wp2_with fail
    refine sC (eF b n t _ HF.v) ?_;rintro w1 hw;subst w1;rw[HK.v,bB];go_wp2
    go_ret2
    rw[HE.v,HN.v];exact⟨rfl,rfl⟩
 .have HE:Hid (Sp.fZ t z p=Sp.cD t z):=hJ (by unfold Sp.fZ;rw[aI k]);have HN:Hid (Sp.eH t z p=0):=hJ (by unfold Sp.eH;rw[HE.v,aI k]);have HW:=hJ k;go_in
  go_wp2_with fail
  refine sC (eF b z t _ HF.v) ?_;rintro w1 hw;subst w1;rw[bC HW.v];go_wp2
  go_ret2
  rw[HE.v,HN.v,bC HW.v];exact⟨rfl,rfl⟩
def cT(t:T)(n k:Nat):List Nat:=((List.range k).filter (Sp.iL t n)).map (λp=>t.bR n p-1)
theorem MF{t:T}{n k:Nat}(h:t.bR n k≠0):cT t n (k+1)=cT t n k++[t.bR n k-1]:=by
 unfold cT;rw[List.range_succ,List.filter_append,List.map_append];simp[Sp.iL,h]
theorem PD{t:T}{n k:Nat}(h:t.bR n k=0):cT t n (k+1)=cT t n k:=by
 unfold cT;rw[List.range_succ,List.filter_append,List.map_append];simp[Sp.iL,h]
theorem MC(t:T)(n k:Nat):(cT t n k).length<=k:=by
 have:=bW (Sp.iL t n) (List.range k);simpa[cT]using this
def re(t:T)(n:Nat):List Value:=(List.range 21).map (λp=>aa az ((t.bR n p:Int)-1))
theorem CQ(t:T)(n:Nat):(re t n).length=21:=by simp[re]
theorem Tb.RH{w:bD}{b n:Nat}{t:T}(h:Tb true w b t)(hn:n<6)(hh:t.here n=true):w.rangeAt b (n*23+2) (re t n):=λj v hv=>by
 have hj:j<21:=by have:=(aY.1 hv).1;rwa [CQ]at this
 rw[h.Nz n j hn hj hh];simp[re,hj]at hv;rw[hv]
theorem Gy(t:T)(n k:Nat)(hk:k<21)(w:bD):Sem.run prog (Instr.index 175 (au (re t n).toArray) (aa IntKind.i64 k)) w= .ok (aa az ((t.bR n k:Int)-1)) w:=by
 have hu:prog.underlying 175=bh (.array 21 3):=by kernel_rfl
 have h1:(k:Int)<21:=bu
 have hx:(re t n)[k]? =bh (aa az ((t.bR n k:Int)-1)):=by simp[re,hk]
 simp[Instr.index,Sem.run_bind,run_underlying hu,go_sem,hx,hk]
theorem vL(b n:Nat)(t:T)(w:bD)(h:Tb true w b t)(hn:n<6)(hh:t.here n=true):
  Calls prog 224 #[ai (bh ⟨b,n*23,bj⟩)] w λe w'=>∃v,e=bf v/\LO w (Sp.dX t n) v w':=by
 obtain⟨i0,hi,hz0,hz1,hz2⟩:=info_parts xM;have HR:=hJ (h.RH hn hh);have hsz:Hid ((prog.info? 175).map (·.size)=bh (re t n).length):=hJ (by rw[CQ];kernel_rfl);go_in
 go_wp2_with (refine wpList_load_mid rfl 175 _ rfl b (n*23+2) rfl (re t n) (.array 21 3) HR.v bw rfl hsz.v ?_)
 go_loopw [3,10] (λl i wr=>∃(k:Nat),i=aa az k/\k<=21/\Hid (LO w (cT t n k) l wr)) (λ_ i _=>21-(intOf i).toNat)
 case atStart=>exact⟨0,rfl,bu,LO.nil w⟩
 case round=>
  obtain⟨k,rfl,hk,R⟩:=hrel;by_cases hlt:k<21
  .have hltI:(k:Int)<21:=bu
   have hix:=Gy t n k hlt wr;by_cases c:t.bR n k=0
   .have HM:=hJ (PD c);rw[c]at hix;have hix':Sem.run prog (Instr.index 175 (au (re t n).toArray) (aa IntKind.i64 k)) wr= .ok (aa az (-1)) wr:=hix;go_wp2
    go_roundw
    case rel=>exact⟨k+1,by go_num,bu,by rw[HM.v];exact R⟩
    case measure=>simp[intOf];omega
   .have HM:=hJ (MF c);obtain⟨x,hx⟩:=hU (t.bR n k-1);rw[hx]at HM;rw[show(t.bR n k:Int)-1=(x:Int)by omega]at hix;have hne:=vb x;obtain⟨a,cap,hv⟩:=fG R.own;rw[hv];have HV:=hJ hv;have hlm:=MC t n k;generalize hN:(cT t n k).length=N at*;have HN:=hJ hN;go_wp2_with (at_builtin;refine wpList_append_lies _ rfl _ _ 46 (by rfl) w.heap.size 3 i0 (aa .i64 0) 1 8 Tryz.underlying46 hi hz0 hz1 hz2 rfl bA (aj a N cap) N (rowOf (cT t n k)) (by rfl) (by rw[<-HV.v,<-HN.v];exact R.own.alloc _) ⟨wr.heap.size,0,bj⟩ 1 1 [aa az x] (by rfl) rfl (cell_one_new _ _ _) (by simp[Value.oneCell']) bA (by unfold maxLen;omega) bu (by have:=R.cM.size;simp;omega) (wr.heap.size+1) (by simp) ?_;intro gg cap2 w1 hown hgrow hat hlt2;have Q1:Hid (LO w (cT t n k++[x]) (aj (bh ⟨gg,0,bj⟩) (N+1) cap2) w1):=R.more HN.v hown _ (by rw[HV.v];exact hgrow))
    go_roundw
    case rel=>exact⟨k+1,by go_num,bu,by rw[HM.v];exact Q1⟩
    case measure=>simp[intOf];omega
  .have hk21:k=21:=bu
   subst hk21;go_wp2
   go_ret
   exact⟨_,rfl,R.v⟩
def dL(t:T)(z:Int):List Nat:=if Sp.cD t z=0 then Sp.dX t z.toNat else[]
theorem Cs(b:Nat)(z:Int)(t:T)(w:bD)(h:Tb true w b t):
  Calls prog 155 #[ai (bh ⟨b,0,bj⟩),aa az z] w λe w'=>∃v,e=bf (ao #[v,bG (Sp.cD t z)])/\LO w (dL t z) v w':=by
 have HF:=hJ h;by_cases k:Sp.cD t z=0
 .have HK:=hJ k;obtain⟨n,rfl,hn,hh⟩:=Sp.nD k;have HH:=hJ hh;have hnI:(n:Int)<6:=bu
  go_in
  go_wp2_with fail
  refine sC (eF b n t _ HF.v) ?_;rintro w1 hw;subst w1;rw[HK.v,bB];go_wp2_with fail
  refine(vL b n t _ HF.v hn HH.v).mono ?_;rintro e w1 ⟨v,rfl,hL⟩;have HL:=hJ hL;go_wp2
  go_ret2
  exact⟨v,by rw[HK.v];rfl,by unfold dL;rw[aJ HK.v,hZ];exact HL.v⟩
 .have HW:=hJ k;go_in
  go_wp2_with fail
  refine sC (eF b z t _ HF.v) ?_;rintro w1 hw;subst w1;rw[bC HW.v];go_wp2
  go_ret2
  exact⟨_,by rw[bC HW.v];rfl,by unfold dL;rw[aI HW.v];exact LO.nil w⟩
def fk(k i:Nat):Int:=if i<k then -1 else 0
theorem Rt(k:Nat):Sp.fY (fk k) k (-1)=fk (k+1):=by
 funext i;unfold Sp.fY fk;by_cases e:i=k
 .rw[aJ e,nK]
 .rw[aI e];by_cases c:i<k
  .rw[aJ c,nK]
  .rw[aI c,nJ]
section
variable {ops:Array Oper}{rest:List Oper}{x:Oper}{a:Act}{w:bD}{Q:Exit->Act->bD->Prop}
theorem kJ(hgd:x.guard=bj)(ho:x.op= .alloc 177)(h:wpList prog ops Q rest (a.put x.dst (ai (bh ⟨w.heap.size,0,bj⟩))) (w.alloc (bg (ed false 0 (fk 0)) 177))):wpList prog ops Q (x::rest) a w:=
 wpList_plain hgd λ_ hK=>by
  unfold Oper.wp execOp;simp only[ho];simp[go_sem];exact hK _ _ h
theorem wS(hgd:x.guard=bj)(ho:x.op= .build 177 #[])(h:wpList prog ops Q rest (a.put x.dst (au (ed false 0 (fk 0)))) w):wpList prog ops Q (x::rest) a w:=
 wpList_plain hgd λ_ hK=>by
  unfold Oper.wp execOp;simp only[ho];simp[go_sem];exact hK _ _ h
theorem wT(hgd:x.guard=bj)(y:Operand)(p:Int)(ho:x.op= .build 177 #[(0, .const (ar true)),(1,y)])(hy:a.eval y=aa az p)(h:wpList prog ops Q rest (a.put x.dst (au (ed true p (fk 0)))) w):wpList prog ops Q (x::rest) a w:=
 wpList_plain hgd λ_ hK=>by
  unfold Oper.wp execOp;simp only[ho,List.map_toArray,List.map_cons,List.map_nil,hy,BigFrame.eval_const];simp[go_sem];exact hK _ _ h
end
theorem oI(w:bD)(cs:Array Value)(T:TypeId)(k:Nat)(hk:k<=cs.size):(w.alloc (bg cs T)).there w.heap.size 0 k:=λj hj=>by
 have h:=heap_alloc_new w (bg cs T);exact⟨by rw[bO h,Array.getElem?_eq_getElem bu];rfl,cv h _⟩
def ra(t:T):List Value:=(List.range 138).map (jQ true t)
theorem sO(t:T):(ra t).length=138:=by simp[ra]
theorem Tb.RC{w:bD}{b:Nat}{t:T}(h:Tb true w b t):w.rangeAt b 0 (ra t):=λj v hv=>by
 have hj:j<138:=by have:=(aY.1 hv).1;rwa [sO]at this
 rw[Nat.zero_add,h.cell j bu];simp[ra,hj]at hv;rw[hv]
def ks(t:T)(k:Nat):Array Value:=ed (t.here k) (t.par k) (λp=>cw true (t.here k) (t.bR k p))
theorem Qe(t:T)(k:Nat)(hk:k<6):(ra t).toArray.extract (k*23) (k*23+23)=ks t k:=by
 apply bL;intro i;rw[Array.getElem?_extract];by_cases hi:i<23
 .rw[aJ (by simp[sO];omega)];unfold ks;rw[mU _ _ _ i hi];have:(ra t).toArray[k*23+i]? =bh (jQ true t (k*23+i)):=by rw[List.getElem?_toArray,ra,List.getElem?_map,List.getElem?_range bu];rfl
  rw[this];by_cases e0:i=0
  .subst e0;rw[aJ rfl,Nat.add_zero,cX true t k hk]
  .by_cases e1:i=1
   .subst e1;rw[nJ,aJ rfl,dk true t k hk]
   .rw[aI e0,aI e1];have:=dm true t k (i-2) hk bu;rw[show k*23+2+(i-2)=k*23+i by omega]at this;rw[this]
 .rw[aI (by simp[sO];omega),aR (by unfold ks;rw[fc];omega)]
theorem Gx(t:T)(k:Nat)(hk:k<6)(w:bD):Sem.run prog (Instr.index 178 (au (ra t).toArray) (aa IntKind.i64 k)) w= .ok (au (ks t k)) w:=by
 have hu:prog.underlying 178=bh (.array 6 177):=by kernel_rfl
 have h1:(k:Int)<6:=bu
 have hx:=Qe t k hk;simp at hx;simp[Instr.index,Sem.run_bind,run_underlying hu,go_sem,hx,hk]
theorem oF(t:T)(k:Nat):(ks t k).size=23:=fc _ _ _
theorem wI(t:T)(k:Nat):(ks t k).all (·.oneCell')=true:=rL _ _ _
theorem JH{w w0:bD}(hb:Below w0.heap.size w0 w)(cs:Array Value)(T:TypeId)(hs:cs.size=23)(t:Sp.T)(k:Nat):
  ((w.alloc (bg cs T)).setCells w.heap.size 0 (ks t k).toList).cell? ⟨w.heap.size,0,bj⟩=bh (ar (t.here k))/\((w.alloc (bg cs T)).setCells w.heap.size 0 (ks t k).toList).cell? ⟨w.heap.size,1,bj⟩=bh (aa az (t.par k))/\Below w0.heap.size w0 ((w.alloc (bg cs T)).setCells w.heap.size 0 (ks t k).toList):=by
 have ht:=oI w cs T 23 bu;have hl:(ks t k).toList.length=23:=by rw[aB,oF]
 have hin:∀j,j<23->((w.alloc (bg cs T)).setCells w.heap.size 0 (ks t k).toList).cell? ⟨w.heap.size,0+j,bj⟩=(ks t k)[j]? :=λj hj=>by
  rw[aS w.heap.size (ks t k).toList 0 _ (λi hi=>(ht i bu).1) j bu,<-aM,aW bu]
 refine⟨?_,?_,?_⟩
 .have:=hin 0 bu;rw[Nat.zero_add]at this;rw[this];exact mU _ _ _ 0 bu
 .have:=hin 1 bu;rw[Nat.zero_add]at this;rw[this];exact mU _ _ _ 1 bu
 .have f:bE w.heap.size w0 ((w.alloc (bg cs T)).setCells w.heap.size 0 (ks t k).toList):=bE.setCells _ _ (bE.cC (hb.alloc hb.size _));have hsz:=hb.size;exact⟨f.os,f.tape,f.output,f.size,λj hj=>f.block j hj bu⟩
theorem qv(b n:Nat)(t:T)(w:bD)(h:Tb true w b t):
  Calls prog 225 #[ai (bh ⟨b,0,bj⟩),aa az n] w λe w'=>e=bf (ar (Sp.kids t n))/\Below w.heap.size w w':=by
 have HR:=hJ h.RC;have hsz:Hid ((prog.info? 178).map (·.size)=bh (ra t).length):=hJ (by rw[sO];kernel_rfl);have hs1:Hid (∀k,(prog.info? 177).map (·.size)=bh (ks t k).size):=hJ (λk=>by rw[oF];kernel_rfl);go_in
 go_wp2_with (refine wpList_load_mid rfl 178 _ rfl b 0 rfl (ra t) (.array 6 177) HR.v bw rfl hsz.v ?_)
 go_loopw [11] (λi wr=>∃(k:Nat),i=aa az k/\k<=6/\Hid (Below w.heap.size w wr/\∀j,j<k->Sp.tM t n j=false)) (λi _=>6-(intOf i).toNat)
 case atStart=>exact⟨0,rfl,bu,aQ _ _,λj hj=>bu⟩
 case round=>
  obtain⟨k,rfl,hk,R⟩:=hrel;by_cases hlt:k<6
  .have hltI:(k:Int)<6:=bu
   have hix:=Gx t k hlt wr;have HKB:Hid (Sp.tM t n k=(t.here k&&decide (t.par k=(n:Int)))):=hJ rfl;have NX:Hid (Sp.tM t n k=false->∀j,j<k+1->Sp.tM t n j=false):=hJ (λc j hj=>by
    by_cases e:j=k
    .rw[e];exact c
    .exact R.2 j bu)
   have NSP:=hJ (JH R.1 (ed false 0 (fk 0)) 177 (fc _ _ _) t k);have HHK:Hid (Sp.tM t n k=true->Sp.kids t n=true):=hJ (λc=>by unfold Sp.kids;exact List.any_eq_true.2 ⟨k,List.mem_range.2 hlt,c⟩);generalize t.here k=hh at*;generalize t.par k=pp at*;cases hh
   .go_wp2_with (first|(refine kJ rfl rfl ?_)|(refine wpList_store_mid rfl 177 _ _ rfl wr.heap.size 0 (ks t k) rfl rfl (by rw[oF];exact oI _ _ _ 23 (by rw[fc];exact aL _)) (hs1.v k) (wI t k) ?_;generalize hW:World.setCells _ _ _ _=W2;obtain⟨n0,n1⟩:W2.cell? ⟨wr.heap.size,0,bj⟩=bh _/\W2.cell? ⟨wr.heap.size,1,bj⟩=bh _:=(by rw[<-hW];exact⟨NSP.1,NSP.2.1⟩);have NB:Hid (Below w.heap.size w W2):=hJ (by rw[<-hW];exact NSP.2.2)))
    go_roundw
    case rel=>exact⟨k+1,by go_num,bu,NB.v,NX.v (by rw[HKB.v];rfl)⟩
    case measure=>simp[intOf];omega
   .by_cases hp:pp=(n:Int)
    .subst hp;go_wp2_with (first|(refine kJ rfl rfl ?_)|(refine wpList_store_mid rfl 177 _ _ rfl wr.heap.size 0 (ks t k) rfl rfl (by rw[oF];exact oI _ _ _ 23 (by rw[fc];exact aL _)) (hs1.v k) (wI t k) ?_;generalize hW:World.setCells _ _ _ _=W2;obtain⟨n0,n1⟩:W2.cell? ⟨wr.heap.size,0,bj⟩=bh _/\W2.cell? ⟨wr.heap.size,1,bj⟩=bh _:=(by rw[<-hW];exact⟨NSP.1,NSP.2.1⟩);have NB:Hid (Below w.heap.size w W2):=hJ (by rw[<-hW];exact NSP.2.2)))
     go_ret
     exact⟨cQ (HHK.v (by rw[HKB.v];simp)).symm,NB.v⟩
    .have hp':(pp==(n:Int))=false:=by simp;exact hp
     go_wp2_with (first|(refine kJ rfl rfl ?_)|(refine wpList_store_mid rfl 177 _ _ rfl wr.heap.size 0 (ks t k) rfl rfl (by rw[oF];exact oI _ _ _ 23 (by rw[fc];exact aL _)) (hs1.v k) (wI t k) ?_;generalize hW:World.setCells _ _ _ _=W2;obtain⟨n0,n1⟩:W2.cell? ⟨wr.heap.size,0,bj⟩=bh _/\W2.cell? ⟨wr.heap.size,1,bj⟩=bh _:=(by rw[<-hW];exact⟨NSP.1,NSP.2.1⟩);have NB:Hid (Below w.heap.size w W2):=hJ (by rw[<-hW];exact NSP.2.2)))
     go_roundw
     case rel=>exact⟨k+1,by go_num,bu,NB.v,NX.v (by rw[HKB.v,aT hp];simp)⟩
     case measure=>simp[intOf];omega
  .have hltI:¬(k:Int)<6:=bu
   go_wp2
   go_ret
   refine⟨cQ ?_,R.1⟩;cases hk2:Sp.kids t n
   .rfl
   .obtain⟨j,hj,kj⟩:=List.any_eq_true.1 hk2;rw[R.2 j (by have:=List.mem_range.1 hj;omega)]at kj;cases kj
structure jx (w W:bD)(b2 b3:Nat)(p:Int)(k:Nat):Prop where
 cM:Below w.heap.size w W
 le:w.heap.size<=b2
 ne:b2<b3
 two:∃cs,W.heap[b2]? =bh (bg cs 177 (0,0))/\cs.size=23
 Ox:W.heap[b3]? =bh (bg (ed true p (fk k)) 177 (0,0))
theorem jx.set{w W:bD}{b2 b3:Nat}{p:Int}{k:Nat}(h:jx w W b2 b3 p k)(hk:k<21):jx w (W.setCell ⟨b3,2+k,bj⟩ (aa az (-1))) b2 b3 p (k+1):=by
 have h1:=h.le;have h2:=h.ne;refine⟨h.cM.setCell (by show _<=b3;omega) _,h1,h2,?_,?_⟩
 .obtain⟨cs,c1,c2⟩:=h.two;exact⟨cs,(dJ _ _ _ _ bu).trans c1,c2⟩
 .rw[cE h.Ox,Qi _ _ _ k (-1) hk,Rt]
theorem tL(b:Nat)(T:TypeId)(vs:List Value)(w:bD)(C:Array Value)(h:w.heap[b]? =bh (bg C T (0,0)))(hs:C.size=vs.length):(w.setCells b 0 vs).heap[b]? =bh (bg vs.toArray T (0,0)):=by
 obtain⟨C',h1,h2⟩:=dY b vs 0 w C h;rw[h1];congr 2;apply bL;intro i;by_cases hi:i<vs.length
 .have:=aS b vs 0 w (λj hj=>by rw[bO h,Array.getElem?_eq_getElem bu];rfl) i hi;rw[bO h1,Nat.zero_add]at this;rw[this,List.getElem?_toArray,aW hi]
 .rw[aR bu,aR (by simp;omega)]
theorem jx.start(w:bD)(p:Int):jx w (((w.alloc (bg (ed false 0 (fk 0)) 177)).alloc (bg (ed false 0 (fk 0)) 177)).setCells (w.alloc (bg (ed false 0 (fk 0)) 177)).heap.size 0 (ed true p (fk 0)).toList) w.heap.size (w.alloc (bg (ed false 0 (fk 0)) 177)).heap.size p 0:=by
 have e1:(w.alloc (bg (ed false 0 (fk 0)) 177)).heap.size=w.heap.size+1:=by simp
 have f:bE (w.alloc (bg (ed false 0 (fk 0)) 177)).heap.size w (((w.alloc (bg (ed false 0 (fk 0)) 177)).alloc (bg (ed false 0 (fk 0)) 177)).setCells (w.alloc (bg (ed false 0 (fk 0)) 177)).heap.size 0 (ed true p (fk 0)).toList):=bE.setCells _ _ (bE.cC (((aQ _ w).alloc (aL _) _).alloc (by simp) _));refine⟨⟨f.os,f.tape,f.output,f.size,λj hj=>f.block j hj bu⟩,aL _,bu,⟨_,?_,fc false 0 (fk 0)⟩,?_⟩
 .rw[lY _ _ _ _ _ bu];rw[Below.heap_alloc _ _ _ bu];exact heap_alloc_new w _
 .have:=tL (w.alloc (bg (ed false 0 (fk 0)) 177)).heap.size 177 (ed true p (fk 0)).toList ((w.alloc (bg (ed false 0 (fk 0)) 177)).alloc (bg (ed false 0 (fk 0)) 177)) _ (heap_alloc_new _ _) (by rw[fc,rK]);rw[this]
theorem jx.range{w W:bD}{b2 b3:Nat}{p:Int}{k:Nat}(h:jx w W b2 b3 p k):W.rangeAt b3 0 (ed true p (fk k)).toList:=λj v hv=>by
 rw[Nat.zero_add,bO h.Ox,<-aM,hv]
theorem jx.there{w W:bD}{b2 b3:Nat}{p:Int}{k:Nat}(h:jx w W b2 b3 p k)(n:Nat)(hn:n=23):W.there b2 0 n:=by
 obtain⟨cs,c1,c2⟩:=h.two;intro j hj;exact⟨by rw[bO c1,Array.getElem?_eq_getElem bu];rfl,cv c1 _⟩
theorem jx.R3(w:bD)(p:Int):jx w (((w.alloc (bg (ed false 0 (fk 0)) 177)).alloc (bg (ed false 0 (fk 0)) 177)).setCells (w.heap.size+1) 0 (ed true p (fk 0)).toList) w.heap.size (w.heap.size+1) p 0:=by
 have:=jx.start w p;rw[show(w.alloc (bg (ed false 0 (fk 0)) 177)).heap.size=w.heap.size+1 by simp]at this;exact this
theorem jx.cell{w W:bD}{b2 b3:Nat}{p:Int}{k:Nat}(h:jx w W b2 b3 p k)(hk:k<21):W.cell? ⟨b3,2+k,bj⟩=bh (aa az (fk k k)):=by
 rw[bO h.Ox,mU _ _ _ (2+k) bu,nJ,nJ,show 2+k-2=k by omega]
theorem jx.fz{w W:bD}{b2 b3:Nat}{p:Int}{k:Nat}(h:jx w W b2 b3 p k)(o:Nat):W.frozen? ⟨b3,o,bj⟩=false:=cv h.Ox o
theorem jx.done{w W:bD}{b2 b3:Nat}{p:Int}{k:Nat}(h:jx w W b2 b3 p k)(cs:List Value)(hc:cs.length=23):(W.setCells b2 0 cs).rangeAt b2 0 cs/\Below w.heap.size w (W.setCells b2 0 cs):=by
 refine⟨World.rangeAt_setCells_same _ _ _ _ (h.there _ hc),?_⟩;have f:bE b2 W (W.setCells b2 0 cs):=bE.setCells _ _ (bE.refl _ _);exact f.below h.cM h.le h.cM.size
theorem uf(p:Int)(w:bD):
  Calls prog 161 #[aa az p] w λe w'=>e=bf (au (ed true p (fk 21)))/\Below w.heap.size w w':=by
 have hs1:Hid ((prog.info? 177).map (·.size)=bh (ed true p (fk 0)).size):=hJ (by rw[fc];kernel_rfl);have hs2:Hid ((prog.info? 177).map (·.size)=bh (ed true p (fk 21)).toList.length):=hJ (by rw[rK];kernel_rfl);have hs3':Hid ((prog.info? 177).map (·.size)=bh (ed true p (fk 21)).size):=hJ (by rw[fc];kernel_rfl);have S0:=hJ (jx.R3 w p);go_in
 go_wp2_with (first|(refine kJ rfl rfl ?_)|(refine wT rfl _ p rfl rfl ?_)|(refine wpList_store_mid rfl 177 _ _ rfl _ 0 (ed true p (fk 0)) rfl rfl (by rw[fc];exact oI _ _ _ 23 (by rw[fc];exact aL _)) hs1.v (rL _ _ _) ?_))
 refine cG (λW=>jx w W w.heap.size (w.heap.size+1) p 0) S0.v ?_;intro W1 h1;have S1:=hJ h1;generalize w.heap.size+1=b3 at*;obtain⟨b2,hb2⟩:=hU (w.heap.size);rw[hb2]at S1|-;have HB2:=hJ hb2;go_loopw [7] (λi wr=>∃(k:Nat),i=aa az k/\k<=21/\Hid (jx w wr b2 b3 p k)) (λi _=>21-(intOf i).toNat)
 case atStart=>exact⟨0,rfl,bu,S1⟩
 case round=>
  obtain⟨k,rfl,hk,S⟩:=hrel;by_cases hlt:k<21
  .have hltI:(k:Int)<21:=bu
   have c0:=S.cell hlt;have cf:=S.fz;go_wp2
   go_roundw
   case rel=>exact⟨k+1,by go_num,bu,S.set hlt⟩
   case measure=>simp[intOf];omega
  .have hk21:k=21:=bu
   subst hk21;obtain⟨A,hA⟩:=hU (ed true p (fk 21));have hl:Hid (A.toList.length=23):=hJ (by rw[<-hA];exact rK _ _ _);have hr:Hid (wr.rangeAt b3 0 A.toList):=hJ (by rw[<-hA];exact S.range);have h1:Hid (A.all (·.oneCell')=true):=hJ (by rw[<-hA];exact rL _ _ _);have ht:Hid (wr.there b2 0 A.size):=hJ (S.there _ (by rw[<-hA];exact fc _ _ _));have hD:=hJ (S.done A.toList hl.v);rw[hA]at hs2;have hs3:Hid ((prog.info? 177).map (·.size)=bh A.size):=hJ (by rw[<-hA];exact hs3'.v);have HA:=hJ hA;go_wp2_with (first|(refine wpList_load_mid rfl 177 _ rfl b3 0 rfl A.toList _ hr.v Tryz.underlying177 rfl hs2.v ?_;rw[Array.toArray_toList])|(refine wpList_store_mid rfl 177 _ _ rfl b2 0 A rfl rfl ht.v hs3.v h1.v ?_))
   have hld:=run_loadVar_mid (P:=prog) (wr.setCells b2 0 A.toList) b2 0 177 A.toList _ hD.1 Tryz.underlying177 rfl hs2.v;rw[Array.toArray_toList]at hld;generalize hW:World.setCells _ _ _ _=W2 at*;refine bodyPost_ret (v:=au A) (by simp[results,Tryz.results161,Act.put,asAddr,hld]) rfl ⟨by rw[HA.v],hD.2⟩
theorem JG(q:Nat)(hq:q<21):fk 21 q=cw true true ((λ_=>0) q):=by unfold fk;rw[aJ hq];rfl
def Fv:Array Value:=((List.range 158).map λi=>if i<138/\i%23=0 then ar false else aa .i64 0).toArray
theorem Tg:Tryz.zeroCells181=Fv:=by kernel_rfl
theorem Qo:Fv.size=158:=by simp[Fv]
theorem AY(i:Nat)(h:i<158):Fv[i]? =bh (if i<138/\i%23=0 then ar false else aa .i64 0):=by simp[Fv,h]
def tz(c:Bool):T:=⟨λ_=>false,λ_=>0,λ_ _=>0,λ_=>if c then 1 else 0⟩
theorem Qj{c:Bool}{w:bD}{b:Nat}(h:w.heap[b]? =bh (bg Fv (Tz c) (0,0))):Tb c w b (tz c):=by
 refine⟨⟨_,h,Qo⟩,fR (λm hm=>?_) (λm hm=>?_) (λm q hm hq=>?_) (λy hy=>?_)⟩
 .rw[cX c _ m hm,bO h,AY _ bu,nK];rfl
 .rw[dk c _ m hm,bO h,AY _ bu,nJ];rfl
 .rw[dm c _ m q hm hq,bO h,AY _ bu,nJ];cases c<;>rfl
 .rw[dM,bO h,AY _ bu,nJ];cases c<;>rfl
def tk(k:Nat):T:=⟨λn=>decide (n=0),λn=>if n=0 then -1 else 0,λ_ _=>0,λx=>if x<k then 0 else 1⟩
theorem Td{w:bD}{b k:Nat}(h:Tb true w b (tk k))(hk:k<20):Tb true (w.setCell ⟨b,138+k,bj⟩ (aa az (-1))) b (tk (k+1)):=by
 have:=h.setOf k 0 hk;refine this.congr (fR (λm hm=>by rw[cX true _ m hm,cX true _ m hm];rfl) (λm hm=>by rw[dk true _ m hm,dk true _ m hm];rfl) (λm q hm hq=>by rw[dm true _ m q hm hq,dm true _ m q hm hq];rfl) (λy hy=>?_));unfold tk Sp.te;grind
theorem R7{w:bD}{b:Nat}(h:Tb true w b (tk 20)):Tb true w b Sp.t0:=
 h.congr (fR (λm hm=>by rw[cX true _ m hm,cX true _ m hm];rfl) (λm hm=>by rw[dk true _ m hm,dk true _ m hm];rfl) (λm q hm hq=>by rw[dm true _ m q hm hq,dm true _ m q hm hq];rfl) (λy hy=>by rw[dM,dM];unfold tk;simp only[aJ hy];rfl))
theorem Nq{w:bD}{b:Nat}(h:Tb true w b (tz true)):Tb true (w.setCells b 0 (ed true (-1) (fk 21)).toList) b (tk 0):=by
 have:=h.wH 0 bu true (-1) (fk 21) (λ_=>0) JG;refine this.congr (fR (λm hm=>?_) (λm hm=>?_) (λm q hm hq=>?_) (λy hy=>?_))
 .rw[cX true _ m hm,cX true _ m hm];by_cases e:m=0
  .subst e;rfl
  .simp[tk,tz,Sp.mF,e]
 .rw[dk true _ m hm,dk true _ m hm];by_cases e:m=0
  .subst e;rfl
  .simp[tk,tz,Sp.fY,e]
 .rw[dm true _ m q hm hq,dm true _ m q hm hq];by_cases e:m=0
  .subst e;rfl
  .simp[tk,tz,Sp.mF,e]
 .rw[dM,dM];rfl
theorem rD(w:bD):Calls prog 83 #[] w λe w'=>e=bf (ai (bh ⟨w.heap.size,0,bj⟩))/\Tb true w' w.heap.size Sp.t0/\Below w.heap.size w w'/\w.heap.size<w'.heap.size:=by
 have Z:Hid (Tb true (w.alloc (bg Tryz.zeroCells181 181)) w.heap.size (tz true)/\Below w.heap.size w (w.alloc (bg Tryz.zeroCells181 181))):=hJ (by
  rw[Tg];exact⟨Qj (heap_alloc_new w _),(aQ _ _).alloc (aL _) _⟩)
 go_in
 go_wp2
 refine cG (λW=>Tb true W w.heap.size (tz true)/\Below w.heap.size w W) Z.v ?_;rintro W1 ⟨h1,hb1⟩;have S1:=hJ (aK h1 hb1);obtain⟨b,hb⟩:=hU (w.heap.size);rw[hb]at S1|-;have HB:=hJ hb;go_region_held3 (λ_=>True) (trivial) ((go_at_call 161;refine sC (uf _ _) ?_;rintro w2 hb2;have T2:Hid (Tb true w2 b (tz true)/\Below b w w2):=hJ ⟨S1.1.drew.below hb2,S1.2.drew.trans (hb2.mono (bI S1.1.lt))⟩;obtain⟨A,hA⟩:=hU (ed true (-1) (fk 21));have HA:=hJ hA;have hAs:A.size=23:=(by rw[<-hA];exact fc _ _ _);have st:=T2.1.store 0 bu true (-1) (fk 21);rw[Nat.zero_mul]at st;rw[hA]at st|-))
 generalize hW2:World.setCells _ _ _ _=W2;have S2:Hid (Tb true W2 b (tk 0)/\Below b w W2):=hJ (by
  have f:bE b w2 W2:=by rw[<-hW2];exact bE.setCells _ _ (bE.refl _ _)
  refine⟨?_,f.below T2.2 (aL _) (bI T2.1.lt)⟩;rw[<-hW2,<-HA.v];exact Nq T2.1)
 go_wp2
 go_loopw [10] (λi wr=>∃(k:Nat),i=aa az k/\k<=20/\Hid (Tb true wr b (tk k)/\Below b w wr)) (λi _=>20-(intOf i).toNat)
 case atStart=>exact⟨0,rfl,bu,S2⟩
 case round=>
  obtain⟨k,rfl,hk,S⟩:=hrel;by_cases hlt:k<20
  .have hltI:(k:Int)<20:=bu
   have c0:=S.1.QJ k hlt;have cf:=S.1.frozen;go_wp2
   go_roundw
   case rel=>exact⟨k+1,by go_num,bu,Td S.1 hlt,S.2.setCell (by show b<=b;omega) _⟩
   case measure=>simp[intOf];omega
  .have hk20:k=20:=bu
   subst hk20;go_wp2
   go_ret
   rw[HB.v];exact⟨rfl,R7 S.1,S.2,S.1.lt⟩
theorem Ir(b:Nat)(z:Int)(t:T)(w:bD)(h:Tb true w b t)(k:Sp.cD t z≠0):
  Calls prog 140 #[ai (bh ⟨b,0,bj⟩),aa az z] w λe w'=>e=bf (ao #[aa az 0,bG (Sp.cD t z)])/\w'=w:=by
 have HF:=hJ h;have HW:=hJ k;go_in
 go_wp2_with fail
 refine sC (eF b z t _ HF.v) ?_;rintro w1 hw;subst w1;rw[bC HW.v];go_wp2
 go_ret2
 rw[bC HW.v];exact⟨rfl,rfl⟩
theorem vT(b n:Nat)(t:T)(d:Nat->Nat)(w:bD)(h:Tb true w b t)(hT:Sp.Tree t d)(hn:n<6)(hh:t.here n=true)(hl:4<=(Sp.W t n).length):
  Calls prog 140 #[ai (bh ⟨b,0,bj⟩),aa az n] w λe w'=>e=bf (ao #[aa az 0,bG 7])/\w'=w:=by
 have HF:=hJ h;have HT:=hJ (aK hT hh);have HK:=hJ (Sp.gw hn hh);go_in
 go_wp2_with fail
 refine sC (eF b n t _ HF.v) ?_;rintro w1 hw;subst w1;rw[HK.v,bB];go_wp2_with fail
 refine sC (oz b n t d _ HF.v HT.1 hn HT.2) ?_;rintro w1 hw;subst w1;generalize (Sp.W t n).length=L at*;have hlI:(4:Int)<=(L:Int):=bu
 go_wp2
 go_ret2
 exact⟨rfl,rfl⟩
theorem vU(b n:Nat)(t:T)(d:Nat->Nat)(w:bD)(h:Tb true w b t)(hT:Sp.Tree t d)(hn:n<6)(hh:t.here n=true)(hl:(Sp.W t n).length<4):
  Calls prog 140 #[ai (bh ⟨b,0,bj⟩),aa az n] w λe w'=>
   (∃k:Nat,k<6/\t.here k=false/\(∀j,j<k->t.here j=true)/\e=bf (ao #[aa az k,bG 0])/\Tb true w' b {t with here:=Sp.mF t.here k true,par:=Sp.fY t.par k n,bR:=λa q=>if a=k then 0 else t.bR a q}/\bE b w w')\/((∀j,j<6->t.here j=true)/\e=bf (ao #[aa az 0,bG 4])/\w'=w):=by
 have HF:=hJ h;have HT:=hJ (aK hT hh);have HK:=hJ (Sp.gw hn hh);go_in
 go_wp2_with fail
 refine sC (eF b n t _ HF.v) ?_;rintro w1 hw;subst w1;rw[HK.v,bB];go_wp2_with fail
 refine sC (oz b n t d _ HF.v HT.1 hn HT.2) ?_;rintro w1 hw;subst w1;generalize (Sp.W t n).length=L at*;have hlI:decide ((4:Int)<=(L:Int))=false:=by simp;omega
 go_wp2_with fail
 go_loopw [19] (λi wr=>∃(k:Nat),i=aa az k/\k<=6/\wr=w/\Hid (∀j,j<k->t.here j=true)) (λi _=>6-(intOf i).toNat)
 case atStart=>exact⟨0,rfl,bu,rfl,λj hj=>bu⟩
 case round=>
  obtain⟨k,rfl,hk,hw,HN⟩:=hrel;subst wr;by_cases hlt:k<6
  .have hltI:(k:Int)<6:=bu
   have c0:=HF.Ge k hlt;cases hkh:t.here k
   .have HKH:=hJ hkh;rw[hkh]at c0;go_wp2_with fail
    go_region_held3 (λ_=>True) (trivial) ((go_at_call 161;refine sC (uf _ _) ?_;rintro w2 hb2;have T2:Hid (Tb true w2 b t/\bE b w w2):=hJ ⟨HF.drew.below hb2,(bE.refl b w).drew.trans (bE.cC hb2)⟩;obtain⟨A,hA⟩:=hU (ed true (n:Int) (fk 21));have HA:=hJ hA;have hAs:A.size=23:=(by rw[<-hA];exact fc _ _ _);have st:=T2.1.store k hlt true (n:Int) (fk 21);rw[hA]at st|-))
    generalize hW2:World.setCells _ _ _ _=W2;have S2:Hid (Tb true W2 b {t with here:=Sp.mF t.here k true,par:=Sp.fY t.par k n,bR:=λa q=>if a=k then 0 else t.bR a q}/\bE b w W2):=hJ (by
     refine⟨?_,by rw[<-hW2];exact bE.setCells _ _ T2.2⟩;rw[<-hW2,<-HA.v];exact T2.1.wH k hlt true n (fk 21) (λ_=>0) JG)
    go_wp2
    go_ret2
    exact .inl ⟨k,hlt,HKH.v,HN.v,rfl,S2.1,S2.2⟩
   .have HKH:=hJ hkh;rw[hkh]at c0;go_wp2
    go_roundw
    case rel=>exact⟨k+1,by go_num,bu,by first|rfl|trivial,λj hj=>by
     by_cases c:j=k
     .rw[c];exact HKH.v
     .exact HN.v j bu⟩
    case measure=>simp[intOf];omega
  .have hltI:¬(k:Int)<6:=bu
   go_wp2
   go_ret2
   exact .inr ⟨λj hj=>HN.v j bu,rfl,rfl⟩
theorem uY(b:Nat)(z:Int)(t:T)(d:Nat->Nat)(w:bD)(h:Tb true w b t)(hI:Sp.Inv t d):
  Calls prog 140 #[ai (bh ⟨b,0,bj⟩),aa az z] w λe w'=>e=bf (ao #[aa az (Sp.mJ t z:Int),bG (Sp.iZ t z)])/\Tb true w' b (Sp.gd t z)/\bE b w w':=by
 by_cases k:Sp.cD t z=0
 .obtain⟨n,rfl,hn,hh⟩:=Sp.nD k;by_cases hl:4<=(Sp.W t n).length
  .have e1:Sp.iZ t n=7:=by unfold Sp.iZ;rw[aJ k,aJ hl]
   have e2:Sp.mJ t n=0:=by unfold Sp.mJ;rw[e1];rfl
   have e3:Sp.gd t n=t:=by unfold Sp.gd;rw[e1];rfl
   refine sC (vT b n t d w h hI.tree hn hh hl) ?_;rintro w' rfl;rw[e1,e2,e3];exact⟨rfl,h,bE.refl _ _⟩
  .refine(vU b n t d w h hI.tree hn hh bu).mono ?_;rintro e w' (⟨m,hm,hmh,hml,rfl,ht,hf⟩|⟨hall,rfl,rfl⟩)
   .have ef:=Sp.LG hm hmh hml;have e1:Sp.iZ t n=0:=by unfold Sp.iZ;rw[aJ k,aI hl,ef,nJ]
    have e2:Sp.mJ t n=m:=by unfold Sp.mJ;rw[e1,aJ rfl,ef]
    rw[e1,e2];refine⟨rfl,?_,hf⟩;unfold Sp.gd;rw[e1,aJ rfl,ef];refine ht.congr (fR (λa ha=>by rw[cX true _ a ha,cX true _ a ha]) (λa ha=>by rw[dk true _ a ha,dk true _ a ha]) (λa q ha hq=>?_) (λy hy=>by rw[dM,dM]));rw[dm true _ a q ha hq,dm true _ a q ha hq];by_cases c:a=m
    .subst c;simp[hI.dead ha hq hmh]
    .simp[c]
   .have ef:=Sp.LJ hall;have e1:Sp.iZ t n=4:=by unfold Sp.iZ;rw[aJ k,aI hl,ef,aJ rfl]
    have e2:Sp.mJ t n=0:=by unfold Sp.mJ;rw[e1];rfl
    have e3:Sp.gd t n=t:=by unfold Sp.gd;rw[e1];rfl
    rw[e1,e2,e3];exact⟨rfl,h,bE.refl _ _⟩
 .have e1:Sp.iZ t z=Sp.cD t z:=by unfold Sp.iZ;rw[aI k]
  have e2:Sp.mJ t z=0:=by unfold Sp.mJ;rw[e1,aI k]
  have e3:Sp.gd t z=t:=by unfold Sp.gd;rw[e1,aI k]
  refine sC (Ir b z t w h k) ?_;rintro w' rfl;rw[e1,e2,e3];exact⟨rfl,h,bE.refl _ _⟩
theorem Gm(b:Nat)(z:Int)(t:T)(w:bD)(h:Tb true w b t)(k:Sp.cD t z≠0):
  Calls prog 153 #[ai (bh ⟨b,0,bj⟩),aa az z] w λe w'=>e=bf (bG (Sp.cD t z))/\w'=w:=by
 have HF:=hJ h;have HW:=hJ k;go_in
 go_wp2_with fail
 refine sC (eF b z t _ HF.v) ?_;rintro w1 hw;subst w1;rw[bC HW.v];go_wp2
 go_ret
 rw[bC HW.v];exact⟨rfl,rfl⟩
theorem IQ(b:Nat)(t:T)(w:bD)(h:Tb true w b t)(k:Sp.cD t 0=0):
  Calls prog 153 #[ai (bh ⟨b,0,bj⟩),aa az 0] w λe w'=>e=bf (bG 5)/\w'=w:=by
 have HF:=hJ h;have HK:=hJ k;go_in
 go_wp2_with fail
 refine sC (eF b 0 t _ HF.v) ?_;rintro w1 hw;subst w1;rw[HK.v,bB];go_wp2
 go_ret
 exact⟨rfl,rfl⟩
theorem IP(b n:Nat)(t:T)(w:bD)(h:Tb true w b t)(n0:n≠0)(hn:n<6)(hh:t.here n=true):
  Calls prog 153 #[ai (bh ⟨b,0,bj⟩),aa az n] w λe w'=>
   ((Sp.dX t n≠[]\/Sp.kids t n=true)/\e=bf (bG 5)/\Below w.heap.size w w')\/(Sp.dX t n=[]/\Sp.kids t n=false/\e=bf (bG 0)/\Tb true w' b {t with here:=Sp.mF t.here n false,par:=Sp.fY t.par n 0,bR:=λa q=>if a=n then 0 else t.bR a q}/\bE b w w'):=by
 have HF:=hJ h;have HH:=hJ hh;have HK:=hJ (Sp.gw hn hh);have nz:((n:Int)==0)=false:=by simp;omega
 have hnI:(n:Int)<6:=bu
 have hs0:Hid ((prog.info? 177).map (·.size)=bh (ed false 0 (fk 0)).size):=hJ (by rw[fc];kernel_rfl);go_in
 go_wp2_with fail
 refine sC (eF b n t _ HF.v) ?_;rintro w1 hw;subst w1;rw[HK.v,bB];go_wp2_with fail
 refine(vL b n t _ HF.v hn HH.v).mono ?_;rintro e w1 ⟨v,rfl,hL⟩;obtain⟨a,cap,hv⟩:=fG hL.own;subst hv;have B1:=hJ hL.cM;by_cases c:Sp.dX t n=[]
 .have HC:=hJ c;rw[c];go_wp2_with fail
  refine sC (qv b n t _ (HF.below B1.v)) ?_;rintro w2 hb2;have B2:=hJ (B1.trans (hb2.mono B1.size));cases hkd:Sp.kids t n
  .have HKD:=hJ hkd;have T2:=hJ (HF.below B2.v);have S2:Hid (Tb true (w2.setCells b (n*23) (ed false 0 (fk 0)).toList) b {t with here:=Sp.mF t.here n false,par:=Sp.fY t.par n 0,bR:=λa q=>if a=n then 0 else t.bR a q}/\bE b w (w2.setCells b (n*23) (ed false 0 (fk 0)).toList)):=hJ ⟨T2.wH n hn false 0 (fk 0) (λ_=>0) (λq hq=>by unfold fk;rw[nJ];rfl),bE.setCells _ _ (bE.cC B2.v)⟩;go_wp2_with (first|(refine wS rfl rfl ?_)|(refine wpList_store_mid rfl 177 _ _ rfl b (n*23) (ed false 0 (fk 0)) rfl rfl (T2.there n hn _ (fc _ _ _)) hs0.v (rL _ _ _) ?_;generalize hW:World.setCells _ _ _ _=W2;have S3:Hid (Tb true W2 b {t with here:=Sp.mF t.here n false,par:=Sp.fY t.par n 0,bR:=λa q=>if a=n then 0 else t.bR a q}/\bE b w W2):=hJ (by rw[<-hW];exact S2.v)))
   go_ret
   exact .inr ⟨HC.v,HKD.v,rfl,S3.1,S3.2⟩
  .have HKD:=hJ hkd;go_wp2
   go_ret
   exact .inl ⟨.inr HKD.v,rfl,B2.v⟩
 .have HC:=hJ c;have hlen:0<(Sp.dX t n).length:=List.length_pos_iff.2 c;generalize (Sp.dX t n).length=L at*;have hlI:(0:Int)<(L:Int):=bu
  go_wp2
  go_ret
  exact .inl ⟨.inl HC.v,rfl,B1.v⟩
theorem Lr(b:Nat)(z:Int)(t:T)(w:bD)(h:Tb true w b t):
  Calls prog 153 #[ai (bh ⟨b,0,bj⟩),aa az z] w λe w'=>e=bf (bG (Sp.iJ t z))/\Tb true w' b (Sp.gB t z)/\bE b w w':=by
 by_cases k:Sp.cD t z=0
 .obtain⟨n,rfl,hn,hh⟩:=Sp.nD k;by_cases n0:n=0
  .subst n0;have e1:Sp.iJ t ((0:Nat):Int)=5:=by unfold Sp.iJ;rw[aJ k,aJ (.inl rfl)]
   have e3:Sp.gB t ((0:Nat):Int)=t:=by unfold Sp.gB;rw[e1];rfl
   refine(IQ b t w h k).mono ?_;rintro e w' ⟨rfl,rfl⟩;rw[e1,e3];exact⟨rfl,h,bE.refl _ _⟩
  .refine(IP b n t w h n0 hn hh).mono ?_;rintro e w' (⟨hc,rfl,hb⟩|⟨hm,hk,rfl,ht,hf⟩)
   .have e1:Sp.iJ t n=5:=by unfold Sp.iJ;rw[aJ k,hZ,aJ (.inr hc)]
    have e3:Sp.gB t n=t:=by unfold Sp.gB;rw[e1];rfl
    rw[e1,e3];exact⟨rfl,h.below hb,bE.cC hb⟩
   .have e1:Sp.iJ t n=0:=by
     unfold Sp.iJ;rw[aJ k,hZ,aI];grind
    rw[e1];refine⟨rfl,?_,hf⟩;unfold Sp.gB;rw[e1,aJ rfl,hZ];refine ht.congr (fR (λa ha=>by rw[cX true _ a ha,cX true _ a ha]) (λa ha=>by rw[dk true _ a ha,dk true _ a ha]) (λa q ha hq=>?_) (λy hy=>by rw[dM,dM]));rw[dm true _ a q ha hq,dm true _ a q ha hq];by_cases c:a=n
    .subst c;simp[Sp.Cr hm q hq]
    .simp[c]
 .have e1:Sp.iJ t z=Sp.cD t z:=by unfold Sp.iJ;rw[aI k]
  have e3:Sp.gB t z=t:=by unfold Sp.gB;rw[e1,aI k]
  refine(Gm b z t w h k).mono ?_;rintro e w' ⟨rfl,rfl⟩;rw[e1,e3];exact⟨rfl,h,bE.refl _ _⟩
