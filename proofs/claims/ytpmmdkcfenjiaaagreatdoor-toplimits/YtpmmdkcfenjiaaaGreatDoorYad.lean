import Derived.Test.YtpmmdkcfenjiaaaGreatDoorYab
set_option maxRecDepth 100000
set_option maxHeartbeats 1000000
set_option linter.unusedVariables false
set_option linter.unusedSimpArgs false
namespace Go.Proofs.YtpmmdkcfenjiaaaGreatDoor
open Value renaming int->aa,pointer->ai,slice->aj,tuple->ao,bool->ar,agg->au
open IntKind renaming i64->az
open Ending renaming returned->bf
open Obj renaming cells->bh
open Option renaming some->bj,none->bu
open Bool renaming true->bw,false->bA
open Tryz (prog)
variable {p z:Int}{L:List Nat}{b b2 b3 i k m n x y:Nat}{d:Nat->Nat}{w:bD}
namespace Sp
structure T where
 here:Nat->Bool
 par:Nat->Int
 b7:Nat->Nat->Nat
 of:Nat->Nat
def vH(t:T):Nat->Int->List Nat
 |0,_=>[]
 |k+1,z=>if z<0 then[]else z.toNat::vH t k (t.par z.toNat)
def W(t:T)(z:Int):List Nat:=vH t 6 z
structure Tree (t:T)(d:Nat->Nat):Prop where
 root:t.here 0=bw/\t.par 0= -1/\d 0=1
 up:∀n,0<n->n<6->t.here n=bw->∃p:Nat,p<6/\t.par n=(p:Int)/\t.here p=bw/\d n=d p+1
 le:∀n,n<6->t.here n=bw->1<=d n/\d n<=4
section
variable {t:T}{d:Nat->Nat}
theorem oS(t:T)(k:Nat)(z:Int)(h:z<0):vH t k z=[]:=by cases k<;>simp[vH,h]
theorem sO(t:T)(k n:Nat):vH t (k+1) (n:Int)=n::vH t k (t.par n):=by
 simp only[vH];rw[nJ,hZ]
theorem Tree.iq(h:Tree t d)(hn:n<6)(hh:t.here n=bw):(n=0/\t.par n= -1/\d n=1)\/∃p:Nat,p<6/\t.par n=(p:Int)/\t.here p=bw/\d n=d p+1:=by
 by_cases e:n=0
 .subst e;exact .inl ⟨rfl,h.root.2⟩
 .exact .inr (h.up n bB hn hh)
theorem Tree.MR(h:Tree t d):∀(k n:Nat),n<6->t.here n=bw->d n<=k->vH t (k+1) (n:Int)=vH t k (n:Int)
 |0,n,hn,hh,hk=>aZ (h.le n hn hh).1 bB
 |k+1,n,hn,hh,hk=>by
  rw[sO,sO];rcases h.iq hn hh with⟨_,e,_⟩|⟨p,h1,e,h2,h3⟩
  .rw[e,oS _ _ _ bB,oS _ _ _ bB]
  .rw[e,h.MR k p h1 h2 bB]
theorem Tree.step(h:Tree t d)(hn:n<6)(hh:t.here n=bw):W t (n:Int)=n::W t (t.par n):=by
 unfold W;rw[sO];rcases h.iq hn hh with⟨_,e,_⟩|⟨p,h1,e,h2,h3⟩
 .rw[e,oS _ _ _ bB,oS _ _ _ bB]
 .rw[e,h.MR 5 p h1 h2 (by have:=(h.le n hn hh).2;omega)]
theorem p7(t:T)(z:Int)(h:z<0):W t z=[]:=oS t 6 z h
theorem Tree.ind(h:Tree t d){P:Nat->Prop}(hP:∀n,n<6->t.here n=bw->(∀p:Nat,p<6->t.here p=bw->t.par n=(p:Int)->d n=d p+1->P p)->P n):∀n,n<6->t.here n=bw->P n:=by
 have:∀k n,d n<=k->n<6->t.here n=bw->P n:=by
  intro k
  induction k with
  |zero=>intro n h1 h2 h3;have:=(h.le n h2 h3).1;omega
  |succ k ih=>intro n h1 h2 h3;exact hP n h2 h3 (λp p1 p2 _ p4=>ih p bB p1 p2)
 exact λn=>this (d n) n (aL _)
theorem Tree.len(h:Tree t d)(hn:n<6)(hh:t.here n=bw):(W t (n:Int)).length=d n:=by
 refine h.ind (P:=λn=>(W t (n:Int)).length=d n) (λn hn hh ih=>?_) n hn hh;show(W t (n:Int)).length=d n;rw[h.step hn hh];rcases h.iq hn hh with⟨_,e,e2⟩|⟨p,h1,e,h2,h3⟩
 .rw[e,p7 _ _ bB,e2];rfl
 .rw[e,List.length_cons,ih p h1 h2 e h3,h3]
theorem Tree.mem(h:Tree t d)(hn:n<6)(hh:t.here n=bw):∀x,x∈W t (n:Int)->x<6/\t.here x=bw/\d x<=d n:=by
 refine h.ind (P:=λn=>∀x,x∈W t (n:Int)->x<6/\t.here x=bw/\d x<=d n) (λn hn hh ih=>?_) n hn hh;intro x hx;rw[h.step hn hh]at hx;rcases List.mem_cons.1 hx with e|hx
 .subst e;exact⟨hn,hh,aL _⟩
 .rcases h.iq hn hh with⟨_,e,e2⟩|⟨p,h1,e,h2,h3⟩
  .rw[e,p7 _ _ bB]at hx;cases hx
  .rw[e]at hx;have:=ih p h1 h2 e h3 x hx;exact⟨this.1,this.2.1,bB⟩
theorem Tree.nodup(h:Tree t d)(hn:n<6)(hh:t.here n=bw):(W t (n:Int)).Nodup:=by
 refine h.ind (P:=λn=>(W t (n:Int)).Nodup) (λn hn hh ih=>?_) n hn hh;show(W t (n:Int)).Nodup;rw[h.step hn hh];rcases h.iq hn hh with⟨_,e,e2⟩|⟨p,h1,e,h2,h3⟩
 .rw[e,p7 _ _ bB];simp
 .rw[e,List.nodup_cons];exact⟨λhm=>by have:=(h.mem h1 h2 n hm).2.2;omega,ih p h1 h2 e h3⟩
theorem yB{t t':T}(h:Tree t d)(hp:∀n,n<6->t.here n=bw->t'.par n=t.par n)(hn:n<6)(hh:t.here n=bw):W t' (n:Int)=W t (n:Int):=by
 have:∀k n,n<6->t.here n=bw->vH t' k (n:Int)=vH t k (n:Int):=by
  intro k
  induction k with
  |zero=>intro n _ _;rfl
  |succ k ih=>
   intro n hn hh;rw[sO,sO,hp n hn hh];rcases h.iq hn hh with⟨_,e,_⟩|⟨p,h1,e,h2,h3⟩
   .rw[e,oS _ _ _ bB,oS _ _ _ bB]
   .rw[e,ih p h1 h2]
 exact this 6 n hn hh
end
structure Inv (t:T)(d:Nat->Nat):Prop where
 tree:Tree t d
 no:∀n,n<6->t.here n=bA->t.par n=0
 r9:∀n,n<6->t.b7 n 0=0
 rM:∀n p,n<6->p<21->t.b7 n p<=20
 one:∀n p q,n<6->p<21->q<21->t.b7 n p=t.b7 n q->t.b7 n p≠0->p=q
 has:∀n x,n<6->x<20->((∃p,p<21/\t.b7 n p=x+1)↔(t.of x≠0/\n∈W t ((t.of x-1:Nat):Int)))
 pF:∀x,x<20->t.of x≠0->t.of x<=6/\t.here (t.of x-1)=bw
def cN(t:T)(z:Int):Int:=if z<0\/6<=z then 1 else if t.here z.toNat=bw then 0 else 2
def lG(z:Int):Int:=if z<0\/20<=z then 1 else 0
def fK(t:T):Nat:=((List.range 6).find? (λn=> !t.here n)).getD 6
def iY(t:T)(z:Int):Int:=if cN t z=0 then(if 4<=(W t z).length then 7 else if fK t=6 then 4 else 0)else cN t z
def nS(t:T)(z:Int):Nat:=if iY t z=0 then fK t else 0
def tX(f:Nat->Nat)(i v:Nat):Nat->Nat:=λj=>if j=i then v else f j
def gD(f:Nat->Int)(i:Nat)(v:Int):Nat->Int:=λj=>if j=i then v else f j
def nN(f:Nat->Bool)(i:Nat)(v:Bool):Nat->Bool:=λj=>if j=i then v else f j
def ga(t:T)(z:Int):T:=if iY t z=0 then{t with here:=nN t.here (fK t) bw,par:=gD t.par (fK t) z}else t
def jG(t:T)(n p:Nat):Bool:=decide (t.b7 n p≠0)
def fY(t:T)(n:Nat):List Nat:=((List.range 21).filter (jG t n)).map (λp=>t.b7 n p-1)
def uJ(t:T)(n k:Nat):Bool:=t.here k&&decide (t.par k=(n:Int))
def kids(t:T)(n:Nat):Bool:=(List.range 6).any (uJ t n)
def jg(t:T)(z:Int):Int:=if cN t z=0 then(if z=0\/fY t z.toNat≠[]\/kids t z.toNat=bw then 5 else 0)else cN t z
def gP(t:T)(z:Int):T:=if jg t z=0 then{t with here:=nN t.here z.toNat bA,par:=gD t.par z.toNat 0}else t
def uR(t:T)(n p:Nat):Bool:=decide (1<=p)&&decide (t.b7 n p=0)
def low(t:T)(n:Nat):Nat:=((List.range 21).find? (uR t n)).getD 0
def jk(t:T)(z x:Int):Int:=if cN t z=0 then lG x else cN t z
def mJ(t:T)(z x:Int):Int:=if jk t z x=0 then(if t.of x.toNat=0 then 0 else 3)else jk t z x
def Eb(t:T)(L:List Nat)(x:Nat):T:={t with b7:=λn p=>if n∈L/\p=low t n then x+1 else t.b7 n p}
def fM(t:T)(z x:Int):T:=if mJ t z x=0 then{Eb t (W t z) x.toNat with of:=tX t.of x.toNat (z.toNat+1)}else t
def wS(t:T)(n x p:Nat):Bool:=decide (t.b7 n p=x+1)
def iV(t:T)(n x:Nat):Nat:=((List.range 21).find? (wS t n x)).getD 0
def uG(t:T)(z x:Int):Nat:=if mJ t z x=0 then iV (fM t z x) z.toNat x.toNat else 0
def mE(t:T)(x:Int):Int:=if lG x=0 then(if t.of x.toNat=0 then 2 else 0)else lG x
def dX(t:T)(x:Int):Nat:=if mE t x=0 then t.of x.toNat-1 else 0
def Af(t:T)(L:List Nat)(x:Nat):T:={t with b7:=λn p=>if n∈L/\t.b7 n p=x+1 then 0 else t.b7 n p}
def dQ(t:T)(x:Int):T:=if mE t x=0 then{Af t (List.range 6) x.toNat with of:=tX t.of x.toNat 0}else t
def Az(t:T)(x z:Int):Int:=if jk t z x=0 then(if iV t z.toNat x.toNat=0 then 2 else 0)else jk t z x
def pS(t:T)(x z:Int):Nat:=if Az t x z=0 then iV t z.toNat x.toNat else 0
def iw(t:T)(z p:Int):Int:=if cN t z=0 then(if p<1\/20<p\/t.b7 z.toNat p.toNat=0 then 2 else 0)else cN t z
def fc(t:T)(z p:Int):Nat:=if iw t z p=0 then t.b7 z.toNat p.toNat-1 else 0
def t0:T:=⟨λn=>decide (n=0),λn=>if n=0 then -1 else 0,λ_ _=>0,λ_=>0⟩
theorem ma{P:Nat->Bool}(h:(List.range n).find? P=bj i):i<n/\P i=bw/\∀j,j<i->P j=bA:=by
 obtain⟨h1,L,M,h2,h3⟩:=List.find?_eq_some_iff_append.1 h;have hi:i<n:=by have:=List.mem_of_find?_eq_some h;simpa using this
 refine⟨hi,h1,λj hj=>?_⟩;have hl:L.length=i:=by
  have e1:(List.range n)[L.length]? =bj i:=by rw[h2];simp
  rw[List.getElem?_range (by have:=congrArg List.length h2;simp at this;omega)]at e1;exact Option.some.inj e1
 have hm:j∈L:=by
  have e:(List.range n)[j]? =L[j]? :=by rw[h2,List.getElem?_append_left bB]
  rw[List.getElem?_range bB]at e;exact bK e.symm
 have:=h3 j hm;simpa using this
theorem Aj{P:Nat->Bool}(hi:i<n)(h:P i=bw)(hl:∀j,j<i->P j=bA):(List.range n).find? P=bj i:=by
 cases hf:(List.range n).find? P with
 |none=>
  have:=List.find?_eq_none.1 hf i (by simpa using hi);exact aZ h this
 |some k=>
  have:=ma hf;congr 1;by_cases e1:k<i
  .have:=hl k e1;rw[(ma hf).2.1]at this;cases this
  .by_cases e2:i<k
   .have:=(ma hf).2.2 i e2;rw[h]at this;cases this
   .omega
theorem GG{P:Nat->Bool}(h:∀j,j<n->P j=bA):(List.range n).find? P=none:=by
 rw[List.find?_eq_none];intro j hj;rw[h j (by simpa using hj)];simp
theorem oF{t:T}(h:cN t z=0):∃n:Nat,z=n/\n<6/\t.here n=bw:=by
 unfold cN at h;by_cases k:z<0\/6<=z
 .rw[aJ k]at h;omega
 .obtain⟨n,rfl⟩:=aG (show 0<=z by omega);rw[aI k,hZ]at h;refine⟨n,rfl,bB,?_⟩;by_cases c:t.here n=bw
  .exact c
  .rw[aI c]at h;omega
theorem jP{t:T}(hn:n<6)(hh:t.here n=bw):cN t n=0:=by
 unfold cN;rw[nJ,hZ,aJ hh]
theorem za(h:lG z=0):∃n:Nat,z=n/\n<20:=by
 unfold lG at h;by_cases k:z<0\/20<=z
 .rw[aJ k]at h;omega
 .exact⟨z.toNat,bB,bB⟩
theorem vd(hn:n<20):lG n=0:=by unfold lG;rw[nJ]
theorem tC{t:T}{x:Int}(h:jk t z x=0):∃n k:Nat,z=n/\x=k/\n<6/\k<20/\t.here n=bw:=by
 unfold jk at h;by_cases k:cN t z=0
 .rw[aJ k]at h;obtain⟨n,rfl,h1,h2⟩:=oF k;obtain⟨m,rfl,h3⟩:=za h;exact⟨n,m,rfl,rfl,h1,h3,h2⟩
 .rw[aI k]at h;exact aZ h k
theorem Ob{t:T}(h:fK t≠6):fK t<6/\t.here (fK t)=bA/\∀j,j<fK t->t.here j=bw:=by
 unfold fK at*;cases hf:(List.range 6).find? (λn=> !t.here n)with
 |none=>rw[hf]at h;exact aZ rfl h
 |some k=>
  have:=ma hf;refine⟨this.1,?_,λj hj=>?_⟩
  .have:=this.2.1;simpa using this
  .have:=this.2.2 j hj;simpa using this
theorem Oa{t:T}(hn:n<6)(h:t.here n=bA)(hl:∀j,j<n->t.here j=bw):fK t=n:=by
 unfold fK;rw[Aj (P:=λn=> !t.here n) hn (by simp[h]) (λj hj=>by simp[hl j hj])];rfl
theorem Oc{t:T}(hl:∀j,j<6->t.here j=bw):fK t=6:=by
 unfold fK;rw[GG (P:=λn=> !t.here n) (λj hj=>by simp[hl j hj])];rfl
theorem po{t:T}(h:iY t z=0):∃n:Nat,z=n/\n<6/\t.here n=bw/\(W t z).length<4/\fK t<6/\t.here (fK t)=bA/\∀j,j<fK t->t.here j=bw:=by
 unfold iY at h;by_cases k:cN t z=0
 .rw[aJ k]at h;obtain⟨n,rfl,h1,h2⟩:=oF k;by_cases c:4<=(W t n).length
  .rw[aJ c]at h;omega
  .rw[aI c]at h;by_cases f:fK t=6
   .rw[aJ f]at h;omega
   .exact⟨n,rfl,h1,h2,bB,Ob f⟩
 .rw[aI k]at h;exact aZ h k
theorem zt:Tree t0 (λ_=>1):=by
 refine⟨⟨rfl,rfl,rfl⟩,λn h0 _ hh=>?_,λn _ _=>⟨by omega,bB⟩⟩;simp[t0]at hh;omega
theorem xz:Inv t0 (λ_=>1):=by
 refine⟨zt,λn _ hh=>?_,λ_ _=>rfl,λ_ _ _ _=>aC _,λ_ _ _ _ _ _ _ h=>aZ rfl h,λn x _ _=>⟨λ⟨p,_,h⟩=>?_,λ⟨h,_⟩=>aZ rfl h⟩,λx _ h=>aZ rfl h⟩
 .simp[t0]at hh|-;exact λe=>aZ e hh
 .simp[t0]at h
theorem Inv.dead{t:T}(h:Inv t d){p:Nat}(hn:n<6)(hp:p<21)(hh:t.here n=bA):t.b7 n p=0:=by
 by_cases e:t.b7 n p=0
 .exact e
 .have hl:=h.rM n p hn hp;have:=(h.has n (t.b7 n p-1) hn bB).1 ⟨p,hp,bB⟩;have o:=h.pF (t.b7 n p-1) bB this.1;have:=(h.tree.mem bB o.2 n this.2).2.1;rw[hh]at this;cases this
end Sp
namespace Sp
section
variable {t:T}{d:Nat->Nat}
theorem Inv.add(h:Inv t d)(z:Int):∃d',Inv (ga t z) d':=by
 unfold ga;by_cases k:iY t z=0
 .rw[aJ k];obtain⟨n,rfl,hn,hh,hl,hf,hfh,_⟩:=po k;rw[h.tree.len hn hh]at hl;generalize fK t=f at*;have fn:n≠f:=λe=>by rw[e,hfh]at hh;cases hh
  have f0:f≠0:=λe=>by rw[e,h.tree.root.1]at hfh;cases hfh
  have nf:∀m,t.here m=bw->m≠f:=λm hm e=>by rw[e,hfh]at hm;cases hm
  obtain⟨t',et⟩:∃t':T,{t with here:=nN t.here f bw,par:=gD t.par f n}=t':=⟨_,rfl⟩;have eh:∀m,t'.here m=if m=f then bw else t.here m:=λm=>by rw[<-et];rfl
  have ep:∀m,t'.par m=if m=f then(n:Int)else t.par m:=λm=>by rw[<-et];rfl
  have ew:t'.b7=t.b7:=by rw[<-et]
  have eo:t'.of=t.of:=by rw[<-et]
  have hw:∀m,m<6->t.here m=bw->W t' (m:Int)=W t (m:Int):=λm hm hmh=>yB h.tree (λm hm hh=>by rw[ep,aI (nf m hh)]) hm hmh;rw[et];refine⟨λm=>if m=f then d n+1 else d m,⟨⟨?_,λm m0 hm hmh=>?_,λm hm hmh=>?_⟩,λm hm hmh=>?_,by rw[ew];exact h.r9,by rw[ew];exact h.rM,by rw[ew];exact h.one,λm x hm hx=>?_,λx hx hx0=>?_⟩⟩
  .refine⟨?_,?_,?_⟩
   .rw[eh];split
    .rfl
    .exact h.tree.root.1
   .rw[ep,aI (bQ f0)];exact h.tree.root.2.1
   .show(if 0=f then d n+1 else d 0)=1;rw[aI (bQ f0)];exact h.tree.root.2.2
  .show∃p:Nat,p<6/\t'.par m=(p:Int)/\t'.here p=bw/\(if m=f then d n+1 else d m)=(if p=f then d n+1 else d p)+1;by_cases e:m=f
   .subst e;refine⟨n,hn,by rw[ep,aJ rfl],by rw[eh,aI fn];exact hh,by rw[aJ rfl,aI fn]⟩
   .rw[eh,aI e]at hmh;obtain⟨p,p1,p2,p3,p4⟩:=h.tree.up m m0 hm hmh;grind
  .show 1<=(if m=f then d n+1 else d m)/\(if m=f then d n+1 else d m)<=4;by_cases e:m=f
   .rw[aJ e];omega
   .rw[aI e];rw[eh,aI e]at hmh;exact h.tree.le m hm hmh
  .rw[eh]at hmh;by_cases e:m=f
   .rw[aJ e]at hmh;cases hmh
   .rw[aI e]at hmh;rw[ep,aI e];exact h.no m hm hmh
  .rw[ew,eo,h.has m x hm hx];constructor
   .rintro⟨h1,h2⟩;have o:=h.pF x hx h1;exact⟨h1,by rw[hw _ bB o.2];exact h2⟩
   .rintro⟨h1,h2⟩;have o:=h.pF x hx h1;exact⟨h1,by rw[hw _ bB o.2]at h2;exact h2⟩
  .rw[eo]at hx0|-;have o:=h.pF x hx hx0;exact⟨o.1,by rw[eh];split;rfl;exact o.2⟩
 .rw[aI k];exact⟨d,h⟩
theorem DX(h:fY t n=[])(p:Nat)(hp:p<21):t.b7 n p=0:=by
 have h1:=List.map_eq_nil_iff.1 h;have:=List.filter_eq_nil_iff.1 h1 p (by simpa using hp);simpa[jG]using this
theorem Rv(h:kids t n=bA)(k:Nat)(hk:k<6)(hh:t.here k=bw):t.par k≠(n:Int):=λe=>by
 have:kids t n=bw:=by unfold kids;rw[List.any_eq_true];exact⟨k,by simpa using hk,by unfold uJ;rw[hh,e];simp⟩
 grind
theorem It(h:jg t z=0):∃n:Nat,z=n/\n≠0/\n<6/\t.here n=bw/\fY t n=[]/\kids t n=bA:=by grind [jg,cN,fY,kids]
theorem Inv.drop(h:Inv t d)(z:Int):Inv (gP t z) d:=by
 unfold gP;by_cases k:jg t z=0
 .rw[aJ k];obtain⟨f,rfl,f0,hf,hfh,hm,hk⟩:=It k;rw[hZ];obtain⟨t',et⟩:∃t':T,{t with here:=nN t.here f bA,par:=gD t.par f 0}=t':=⟨_,rfl⟩;have eh:∀m,t'.here m=if m=f then bA else t.here m:=λm=>by rw[<-et];rfl
  have ep:∀m,t'.par m=if m=f then(0:Int)else t.par m:=λm=>by rw[<-et];rfl
  have ew:t'.b7=t.b7:=by rw[<-et]
  have eo:t'.of=t.of:=by rw[<-et]
  rw[et];have pn:∀m p:Nat,m<6->t.here m=bw->t.par m=(p:Int)->p≠f:=λm p hm hh e c=>Rv hk m hm hh (by rw[e,c]);have tr:Tree t' d:=by
   refine⟨⟨by rw[eh,aI (bQ f0)];exact h.tree.root.1,by rw[ep,aI (bQ f0)];exact h.tree.root.2.1,h.tree.root.2.2⟩,λm m0 hm' hmh=>?_,λm hm' hmh=>?_⟩
   .rw[eh]at hmh;by_cases e:m=f
    .rw[aJ e]at hmh;cases hmh
    .rw[aI e]at hmh;obtain⟨p,p1,p2,p3,p4⟩:=h.tree.up m m0 hm' hmh;exact⟨p,p1,by rw[ep,aI e];exact p2,by rw[eh,aI (pn m p hm' hmh p2)];exact p3,p4⟩
   .rw[eh]at hmh;by_cases e:m=f
    .rw[aJ e]at hmh;cases hmh
    .rw[aI e]at hmh;exact h.tree.le m hm' hmh
  have hw:∀m,m<6->t'.here m=bw->W t (m:Int)=W t' (m:Int):=λm hm' hmh=>yB tr (λk hk' hkh=>by
   rw[eh]at hkh;by_cases e:k=f
   .rw[aJ e]at hkh;cases hkh
   .rw[ep,aI e]) hm' hmh
  have of:∀x,x<20->t.of x≠0->t.of x-1≠f:=λx hx hx0 e=>by
   have o:=h.pF x hx hx0;have:t.of x-1∈W t ((t.of x-1:Nat):Int):=by rw[h.tree.step bB o.2];simp
   obtain⟨p,hp,hw⟩:=(h.has (t.of x-1) x bB hx).2 ⟨hx0,this⟩;rw[e,DX hm p hp]at hw;omega
  refine⟨tr,λm hm' hmh=>?_,by rw[ew];exact h.r9,by rw[ew];exact h.rM,by rw[ew];exact h.one,λm x hm' hx=>?_,λx hx hx0=>?_⟩
  .rw[eh]at hmh;by_cases e:m=f
   .rw[ep,aJ e]
   .rw[aI e]at hmh;rw[ep,aI e];exact h.no m hm' hmh
  .rw[ew,eo,h.has m x hm' hx];constructor
   .rintro⟨h1,h2⟩;have o:=h.pF x hx h1;exact⟨h1,by rw[<-hw _ bB (by rw[eh,aI (of x hx h1)];exact o.2)];exact h2⟩
   .rintro⟨h1,h2⟩;have o:=h.pF x hx h1;grind
  .rw[eo]at hx0|-;have o:=h.pF x hx hx0;exact⟨o.1,by rw[eh,aI (of x hx hx0)];exact o.2⟩
 .rw[aI k];exact h
theorem uM:∀(l m:List Nat),l.Nodup->(∀x∈l,x∈m)->l.length<=m.length
 |[],_,_,_=>aC _
 |a::t,m,hn,hs=>by
  have hn':=List.nodup_cons.1 hn;have:=uM t (m.erase a) hn'.2 (λx hx=>(List.mem_erase_of_ne (show x≠a from λe=>hn'.1 (by rw[<-e];exact hx))).2 (hs x (by simp[hx])));grind
theorem Inv.room(h:Inv t d)(hx:x<20)(h0:t.of x=0)(hn:n<6):∃p,1<=p/\p<21/\t.b7 n p=0:=by
 refine Classical.byContradiction λhc=>?_;have hne:∀p,p<20->t.b7 n (p+1)≠0:=λp hp e=>hc ⟨p+1,bB,bB,e⟩;have hl:((List.range 20).map (λp=>t.b7 n (p+1)-1)).Nodup:=by
  rw[List.nodup_iff_pairwise_ne,List.pairwise_map];refine List.Pairwise.imp_of_mem ?_ (List.nodup_iff_pairwise_ne.1 List.nodup_range);intro a b ha hb hab e;have ha':a<20:=by simpa using ha
  have hb':b<20:=by simpa using hb
  have a0:=hne a ha';have b0:=hne b hb';have:=h.one n (a+1) (b+1) hn bB bB bB a0;omega
 have hs:∀y∈(List.range 20).map (λp=>t.b7 n (p+1)-1),y∈(List.range 20).erase x:=by
  intro y hy;obtain⟨a,ha,rfl⟩:=List.mem_map.1 hy;have ha':a<20:=by simpa using ha
  have a0:=hne a ha';have al:=h.rM n (a+1) hn bB;rw[List.Nodup.mem_erase_iff List.nodup_range];refine⟨λe=>?_,by simp;omega⟩;have:=(h.has n x hn hx).1 ⟨a+1,bB,bB⟩;exact this.1 h0
 have hlen:=uM _ _ hl hs;grind
theorem Inv.low(h:Inv t d){x n:Nat}(hx:x<20)(h0:t.of x=0)(hn:n<6):1<=Sp.low t n/\Sp.low t n<21/\t.b7 n (Sp.low t n)=0/\∀q,1<=q->q<Sp.low t n->t.b7 n q≠0:=by
 obtain⟨p,p1,p2,p3⟩:=h.room hx h0 hn;unfold Sp.low;cases hf:(List.range 21).find? (uR t n)with
 |none=>
  have:=List.find?_eq_none.1 hf p (by simpa using p2);exact aZ (by unfold uR;rw[p3];simp;omega) this
 |some k=>
  have:=ma hf;have h1:=this.2.1;unfold uR at h1;simp at h1;refine⟨h1.1,this.1,h1.2,λq q1 q2 e=>?_⟩;unfold uR at this;grind
theorem T7{p:Nat}(p1:1<=p)(p2:p<21)(h:t.b7 n p=0)(hl:∀q,1<=q->q<p->t.b7 n q≠0):Sp.low t n=p:=by
 unfold Sp.low;rw[Aj p2 (by unfold uR;rw[h];simp;omega) (λq hq=>by
  unfold uR;by_cases e:1<=q
  .grind
  .simp[e])]
 rfl
theorem Km{x:Int}(h:mJ t z x=0):∃n k:Nat,z=n/\x=k/\n<6/\k<20/\t.here n=bw/\t.of k=0:=by grind [mJ,jk,tC]
theorem Inv.enter(h:Inv t d)(z x:Int):Inv (fM t z x) d:=by
 unfold fM;by_cases k:mJ t z x=0
 .rw[aJ k];obtain⟨n,y,rfl,rfl,hn,hy,hh,h0⟩:=Km k;rw[hZ,hZ];obtain⟨t',et⟩:∃t':T,{Eb t (W t n) y with of:=tX t.of y (n+1)}=t':=⟨_,rfl⟩;have eh:t'.here=t.here:=by rw[<-et];rfl
  have ep:t'.par=t.par:=by rw[<-et];rfl
  have ew:∀m p,t'.b7 m p=if m∈W t n/\p=Sp.low t m then y+1 else t.b7 m p:=λm p=>by rw[<-et];rfl
  have eo:∀u,t'.of u=if u=y then n+1 else t.of u:=λu=>by rw[<-et];rfl
  rw[et];have hw:∀m,m<6->t.here m=bw->W t' (m:Int)=W t (m:Int):=λm hm hmh=>yB h.tree (λk _ _=>by rw[ep]) hm hmh;have lw:∀m,m<6->_:=λm hm=>h.low (n:=m) hy h0 hm;have free:∀m p,m<6->p<21->t.b7 m p≠y+1:=λm p hm hp e=>((h.has m y hm hy).1 ⟨p,hp,e⟩).1 h0;refine⟨⟨by rw[eh,ep];exact h.tree.root,by rw[eh,ep];exact h.tree.up,by rw[eh];exact h.tree.le⟩,by rw[eh,ep];exact h.no,λm hm=>?_,λm p hm hp=>?_,λm p q hm hp hq e e0=>?_,λm u hm hu=>?_,λu hu u0=>?_⟩
  .rw[ew,aI (λc=>by have:=(lw m hm).1;omega)];exact h.r9 m hm
  .rw[ew];split
   .omega
   .exact h.rM m p hm hp
  .rw[ew]at e e0;rw[ew m q]at e;by_cases c:m∈W t n/\p=Sp.low t m
   .rw[aJ c]at e e0;by_cases c2:m∈W t n/\q=Sp.low t m
    .rw[c.2,c2.2]
    .rw[aI c2]at e;exact aZ e.symm (free m q hm hq)
   .rw[aI c]at e e0;by_cases c2:m∈W t n/\q=Sp.low t m
    .rw[aJ c2]at e;exact aZ e (free m p hm hp)
    .rw[aI c2]at e;exact h.one m p q hm hp hq e e0
  .rw[eo];by_cases e:u=y
   .subst e;grind
   .rw[aI e];have hm':(∃p,p<21/\t'.b7 m p=u+1)↔(∃p,p<21/\t.b7 m p=u+1):=by
     constructor
     .rintro⟨p,hp,e2⟩;rw[ew]at e2;by_cases c:m∈W t n/\p=Sp.low t m
      .rw[aJ c]at e2;omega
      .rw[aI c]at e2;exact⟨p,hp,e2⟩
     .rintro⟨p,hp,e2⟩;refine⟨p,hp,?_⟩;rw[ew,aI (λc=>by rw[c.2,(lw m hm).2.2.1]at e2;omega)];exact e2
    rw[hm',h.has m u hm hu];constructor
    .rintro⟨h1,h2⟩;have o:=h.pF u hu h1;exact⟨h1,by rw[hw _ bB o.2];exact h2⟩
    .rintro⟨h1,h2⟩;have o:=h.pF u hu h1;exact⟨h1,by rw[hw _ bB o.2]at h2;exact h2⟩
  .rw[eo]at u0|-;rw[eh];by_cases e:u=y
   .rw[aJ e];exact⟨by omega,by rw[aP];exact hh⟩
   .rw[aI e]at u0|-;exact h.pF u hu u0
 .rw[aI k];exact h
theorem Ds{x:Int}(h:mE t x=0):∃k:Nat,x=k/\k<20/\t.of k≠0:=by grind [mE,lG]
theorem Inv.leave(h:Inv t d)(x:Int):Inv (dQ t x) d:=by
 unfold dQ;by_cases k:mE t x=0
 .rw[aJ k];obtain⟨y,rfl,hy,h0⟩:=Ds k;rw[hZ];obtain⟨t',et⟩:∃t':T,{Af t (List.range 6) y with of:=tX t.of y 0}=t':=⟨_,rfl⟩;have eh:t'.here=t.here:=by rw[<-et];rfl
  have ep:t'.par=t.par:=by rw[<-et];rfl
  have ew:∀m p,m<6->t'.b7 m p=if t.b7 m p=y+1 then 0 else t.b7 m p:=λm p hm=>by rw[<-et];simp[Af,hm]
  have eo:∀u,t'.of u=if u=y then 0 else t.of u:=λu=>by rw[<-et];rfl
  rw[et];have hw:∀m,m<6->t.here m=bw->W t' (m:Int)=W t (m:Int):=λm hm hmh=>yB h.tree (λk _ _=>by rw[ep]) hm hmh;refine⟨⟨by rw[eh,ep];exact h.tree.root,by rw[eh,ep];exact h.tree.up,by rw[eh];exact h.tree.le⟩,by rw[eh,ep];exact h.no,λm hm=>?_,λm p hm hp=>?_,λm p q hm hp hq e e0=>?_,λm u hm hu=>?_,λu hu u0=>?_⟩
  .rw[ew _ _ hm,h.r9 m hm];rfl
  .rw[ew _ _ hm];split
   .omega
   .exact h.rM m p hm hp
  .rw[ew _ _ hm]at e e0;rw[ew _ q hm]at e;by_cases c:t.b7 m p=y+1
   .rw[aJ c]at e0;exact aZ rfl e0
   .rw[aI c]at e e0;by_cases c2:t.b7 m q=y+1
    .rw[aJ c2]at e;exact aZ e e0
    .rw[aI c2]at e;exact h.one m p q hm hp hq e e0
  .rw[eo];by_cases e:u=y
   .subst e;rw[aJ rfl];constructor
    .rintro⟨p,hp,e⟩;rw[ew _ _ hm]at e;by_cases c:t.b7 m p=u+1
     .rw[aJ c]at e;omega
     .rw[aI c]at e;exact aZ e c
    .rintro⟨c,_⟩;exact aZ rfl c
   .rw[aI e];have hm':(∃p,p<21/\t'.b7 m p=u+1)↔(∃p,p<21/\t.b7 m p=u+1):=by grind
    rw[hm',h.has m u hm hu];constructor
    .rintro⟨h1,h2⟩;have o:=h.pF u hu h1;exact⟨h1,by rw[hw _ bB o.2];exact h2⟩
    .rintro⟨h1,h2⟩;have o:=h.pF u hu h1;exact⟨h1,by rw[hw _ bB o.2]at h2;exact h2⟩
  .rw[eo]at u0|-;rw[eh];by_cases e:u=y
   .rw[aJ e]at u0;exact aZ rfl u0
   .rw[aI e]at u0|-;exact h.pF u hu u0
 .rw[aI k];exact h
end
end Sp
open Go.RowKit
open Sp (T)
def Vx(c:Bool):TypeId:=if c then 181 else 100000
def cw(c h:Bool)(v:Nat):Int:=if c then(if h then(v:Int)-1 else 0)else v
def co(c:Bool)(v:Nat):Int:=if c then(v:Int)-1 else v
def kK(c:Bool)(t:T)(o:Nat):Value:=
 if o<138 then(if o%23=0 then ar (t.here (o/23))else if o%23=1 then aa az (t.par (o/23))else aa az (cw c (t.here (o/23)) (t.b7 (o/23) (o%23-2))))else aa az (co c (t.of (o-138)))
theorem dh(c:Bool)(t:T)(n:Nat)(hn:n<6):kK c t (n*23)=ar (t.here n):=by
 unfold kK;rw[nK,nK,show n*23/23=n by omega]
theorem dz(c:Bool)(t:T)(n:Nat)(hn:n<6):kK c t (n*23+1)=aa az (t.par n):=by
 unfold kK;rw[nK,nJ,nK,show(n*23+1)/23=n by omega]
theorem dA(c:Bool)(t:T)(n p:Nat)(hn:n<6)(hp:p<21):kK c t (n*23+2+p)=aa az (cw c (t.here n) (t.b7 n p)):=by
 unfold kK;rw[nK,nJ,nJ,show(n*23+2+p)/23=n by omega,show(n*23+2+p)%23-2=p by omega]
theorem ec(c:Bool)(t:T)(x:Nat):kK c t (138+x)=aa az (co c (t.of x)):=by
 unfold kK;rw[nJ,show 138+x-138=x by omega]
theorem gA{P:Nat->Prop}(h1:∀n,n<6->P (n*23))(h2:∀n,n<6->P (n*23+1))(h3:∀n p,n<6->p<21->P (n*23+2+p))(h4:∀x,x<20->P (138+x))(o:Nat)(ho:o<158):P o:=by
 by_cases a:o<138
 .by_cases r0:o%23=0
  .have:=h1 (o/23) bB;rwa [show o/23*23=o by omega]at this
  .by_cases r1:o%23=1
   .have:=h2 (o/23) bB;rwa [show o/23*23+1=o by omega]at this
   .have:=h3 (o/23) (o%23-2) bB bB;rwa [show o/23*23+2+(o%23-2)=o by omega]at this
 .have:=h4 (o-138) bB;rwa [show 138+(o-138)=o by omega]at this
structure Tb (c:Bool)(w:bD)(b:Nat)(t:T):Prop where
 da:∃C,w.heap[b]? =bj (bh C (Vx c) (0,0))/\C.size=158
 cell:∀o,o<158->w.cell? ⟨b,o,bu⟩=bj (kK c t o)
section
variable {c:Bool}{w w':bD}{b:Nat}{t t':T}
theorem Tb.drew(h:Tb c w b t):Tb c w.drew b t:=⟨h.da,h.cell⟩
theorem Tb.frozen(h:Tb c w b t)(o:Nat):w.frozen? ⟨b,o,bu⟩=bA:=by obtain⟨C,h1,_⟩:=h.da;exact cE h1 o
theorem Tb.lt(h:Tb c w b t):b<w.heap.size:=by obtain⟨C,h1,_⟩:=h.da;exact(aX.1 h1).1
theorem Tb.same(h:Tb c w b t)(e:w'.heap[b]? =w.heap[b]?):Tb c w' b t:=⟨by rw[e];exact h.da,λo ho=>(aV e).trans (h.cell o ho)⟩
theorem Tb.below(h:Tb c w b t)(k:Below w.heap.size w w'):Tb c w' b t:=h.same (k.block b h.lt)
theorem Tb.congr(h:Tb c w b t)(e:∀o,o<158->kK c t' o=kK c t o):Tb c w b t':=⟨h.da,λo ho=>by rw[e o ho];exact h.cell o ho⟩
theorem Tb.Il(h:Tb c w b t)(n:Nat)(hn:n<6):w.cell? ⟨b,n*23,bu⟩=bj (ar (t.here n)):=by rw[h.cell _ bB,dh c t n hn]
theorem Tb.uz(h:Tb c w b t)(n:Nat)(hn:n<6):w.cell? ⟨b,n*23+1,bu⟩=bj (aa az (t.par n)):=by rw[h.cell _ bB,dz c t n hn]
theorem Tb.Im(h:Tb c w b t)(n p:Nat)(hn:n<6)(hp:p<21):w.cell? ⟨b,n*23+2+p,bu⟩=bj (aa az (cw c (t.here n) (t.b7 n p))):=by rw[h.cell _ bB,dA c t n p hn hp]
theorem Tb.Tj(h:Tb c w b t)(x:Nat)(hx:x<20):w.cell? ⟨b,138+x,bu⟩=bj (aa az (co c (t.of x))):=by rw[h.cell _ bB,ec]
theorem Tb.PK(h:Tb bw w b t)(n p:Nat)(hn:n<6)(hp:p<21)(hh:t.here n=bw):w.cell? ⟨b,n*23+2+p,bu⟩=bj (aa az ((t.b7 n p:Int)-1)):=by rw[h.Im n p hn hp,hh];rfl
theorem Tb.Qg(h:Tb bw w b t)(x:Nat)(hx:x<20):w.cell? ⟨b,138+x,bu⟩=bj (aa az ((t.of x:Int)-1)):=by rw[h.Tj x hx];rfl
theorem Tb.set(h:Tb c w b t)(o:Nat)(ho:o<158)(v:Value)(hv:∀i,i<158->kK c t' i=if i=o then v else kK c t i):Tb c (w.setCell ⟨b,o,bu⟩ v) b t':=by
 obtain⟨C,h1,h2⟩:=h.da;refine⟨⟨_,cQ h1 _ v,by simpa using h2⟩,λi hi=>?_⟩;rw[hv i hi];by_cases e:i=o
 .subst e;rw[dF h1 _ v bB,aJ rfl]
 .rw[dm h1 _ _ v (bQ e),aI e];exact h.cell i hi
def MC(t:T)(n p v:Nat):T:={t with b7:=λa q=>if a=n/\q=p then v else t.b7 a q}
theorem Tb.Md(h:Tb c w b t)(n p v:Nat)(hn:n<6)(hp:p<21):Tb c (w.setCell ⟨b,n*23+2+p,bu⟩ (aa az (cw c (t.here n) v))) b (MC t n p v):=by
 refine h.set _ bB _ (gA (λm hm=>?_) (λm hm=>?_) (λm q hm hq=>?_) (λx hx=>?_))
 .rw[dh c _ m hm,dh c _ m hm,nJ];rfl
 .rw[dz c _ m hm,dz c _ m hm,nJ];rfl
 .rw[dA c _ m q hm hq,dA c _ m q hm hq];by_cases e:m=n/\q=p
  .obtain⟨rfl,rfl⟩:=e;rw[aJ rfl];simp[MC]
  .rw[nJ];simp[MC,e]
 .rw[ec,ec,nJ];rfl
theorem Tb.setOf(h:Tb c w b t)(x v:Nat)(hx:x<20):Tb c (w.setCell ⟨b,138+x,bu⟩ (aa az (co c v))) b {t with of:=Sp.tX t.of x v}:=by
 refine h.set _ bB _ (gA (λm hm=>?_) (λm hm=>?_) (λm q hm hq=>?_) (λy hy=>?_))
 .rw[dh c _ m hm,dh c _ m hm,nJ]
 .rw[dz c _ m hm,dz c _ m hm,nJ]
 .rw[dA c _ m q hm hq,dA c _ m q hm hq,nJ]
 .rw[ec,ec];by_cases e:y=x
  .subst e;rw[aJ rfl];simp[Sp.tX]
  .rw[nJ];simp[Sp.tX,e]
end
def eX(hh:Bool)(p:Int)(f:Nat->Int):Array Value:=((List.range 23).map λi=>if i=0 then ar hh else if i=1 then aa az p else aa az (f (i-2))).toArray
theorem fE(hh:Bool)(p:Int)(f:Nat->Int):(eX hh p f).size=23:=by simp[eX]
theorem sI(hh:Bool)(p:Int)(f:Nat->Int):(eX hh p f).toList.length=23:=by simp[eX]
theorem oa(hh:Bool)(p:Int)(f:Nat->Int)(i:Nat)(h:i<23):(eX hh p f)[i]? =bj (if i=0 then ar hh else if i=1 then aa az p else aa az (f (i-2))):=by simp[eX,h]
theorem sJ(hh:Bool)(p:Int)(f:Nat->Int):(eX hh p f).all (·.oneCell')=bw:=by
 rw[Array.all_eq_true_iff_forall_mem];intro v hv;simp only[eX,List.mem_toArray,List.mem_map]at hv;obtain⟨i,_,rfl⟩:=hv;split
 .rfl
 .split<;>rfl
theorem Sr(hh:Bool)(p:Int)(f:Nat->Int)(i:Nat)(v:Int)(hi:i<21):(eX hh p f).setIfInBounds (2+i) (aa az v)=eX hh p (Sp.gD f i v):=by
 apply bL;intro j;rcases Nat.lt_or_ge j 23 with hj|hj
 .rw[oa _ _ _ j hj];by_cases e:j=2+i
  .subst e;rw[aE (by rw[fE];omega),nJ,nJ];simp[Sp.gD]
  .rw[aU bB,oa _ _ _ j hj];by_cases e0:j=0
   .rw[aJ e0,aJ e0]
   .by_cases e1:j=1
    .rw[aI e0,aJ e1,aI e0,aJ e1]
    .rw[aI e0,aI e1,aI e0,aI e1];unfold Sp.gD;rw[nJ]
 .rw[aR (by simp[eX];omega),aR (by rw[fE];omega)]
section
variable {c:Bool}{w:bD}{b:Nat}{t t':T}
theorem Tb.there(h:Tb c w b t)(n:Nat)(hn:n<6)(k:Nat)(hk:k=23):w.there b (n*23) k:=by
 obtain⟨C,h1,h2⟩:=h.da;intro j hj;exact⟨by rw[bR h1,Array.getElem?_eq_getElem bB];rfl,cE h1 _⟩
theorem Tb.store(h:Tb c w b t)(n:Nat)(hn:n<6)(hh:Bool)(p:Int)(f:Nat->Int):(storeCells ⟨b,n*23,bu⟩ (eX hh p f).toList).run prog w= .ok () (w.setCells b (n*23) (eX hh p f).toList):=by
 have ht:=h.there n hn 23 rfl;have hs:=sI hh p f;have:=run_storeCells_cells (P:=prog) b (n*23) (eX hh p f).toList 0 w
  (λj hj=>by simpa using(ht j bB).1) (λj hj=>by simpa using(ht j bB).2)
  (λv hv=>(Array.all_eq_true_iff_forall_mem.1 (sJ hh p f)) v (by simpa using hv))
 simp only[Nat.add_zero]at this;exact this
theorem Tb.xQ(h:Tb c w b t)(n:Nat)(hn:n<6)(hh:Bool)(p:Int)(f:Nat->Int)(g:Nat->Nat)(hf:∀q,q<21->f q=cw c hh (g q)):
  Tb c (w.setCells b (n*23) (eX hh p f).toList) b {t with here:=Sp.nN t.here n hh,par:=Sp.gD t.par n p,b7:=λa q=>if a=n then g q else t.b7 a q}:=by
 obtain⟨C,h1,h2⟩:=h.da;have ht:=h.there n hn 23 rfl;have hs:=sI hh p f;obtain⟨C',k1,k2⟩:=eP b (eX hh p f).toList (n*23) w C h1;have hin:∀j,j<23->(w.setCells b (n*23) (eX hh p f).toList).cell? ⟨b,n*23+j,bu⟩=(eX hh p f)[j]? :=λj hj=>by
  rw[aS b (eX hh p f).toList (n*23) w (λi hi=>(ht i bB).1) j bB,<-aM,aW bB]
 have hout:∀i,i<n*23\/n*23+23<=i->(w.setCells b (n*23) (eX hh p f).toList).cell? ⟨b,i,bu⟩=w.cell? ⟨b,i,bu⟩:=λi hi=>by
  refine aA b _ (n*23) w ⟨b,i,bu⟩ (λ_ _=>?_);rw[hs];exact hi
 refine⟨⟨C',k1,bB⟩,gA (λm hm=>?_) (λm hm=>?_) (λm q hm hq=>?_) (λy hy=>?_)⟩
 .rw[dh c _ m hm];by_cases e:m=n
  .subst e;have:=hin 0 bB;rw[oa _ _ _ 0 bB]at this;rw[Nat.add_zero]at this;rw[this];simp[Sp.nN]
  .rw[hout _ bB,h.Il m hm];simp[Sp.nN,e]
 .rw[dz c _ m hm];by_cases e:m=n
  .subst e;rw[hin 1 bB,oa _ _ _ 1 bB];simp[Sp.gD]
  .rw[hout _ bB,h.uz m hm];simp[Sp.gD,e]
 .rw[dA c _ m q hm hq];by_cases e:m=n
  .subst e;rw[show m*23+2+q=m*23+(2+q)by omega,hin (2+q) bB,oa _ _ _ (2+q) bB,nJ,nJ,show 2+q-2=q by omega,hf q hq];simp[Sp.nN]
  .rw[hout _ bB,h.Im m q hm hq];simp[Sp.nN,e]
 .rw[ec,hout _ bB,h.Tj y hy]
end
theorem e9(b:Nat)(z:Int)(t:T)(w:bD)(h:Tb bw w b t):Calls prog 136 #[ai (bj ⟨b,0,bu⟩),aa az z] w λe w'=>e=bf (bN (Sp.cN t z))/\w'=w:=by
 by_cases k:z<0\/6<=z
 .have e:Hid (Sp.cN t z=1):=hJ (aJ k);by_cases h0:z<0
  .clear k;go_in
   go_wp2
   go_ret
   rw[e.v];exact⟨rfl,rfl⟩
  .have h1:decide (z<0)=bA:=by simp;omega
   have h2:6<=z:=bB
   go_in
   go_wp2
   go_ret
   rw[e.v];exact⟨rfl,rfl⟩
 .obtain⟨n,rfl⟩:=aG (show 0<=z by omega);have hn:n<6:=bB
  have h1:(n:Int)<6:=bB
  have h2:decide (6<=(n:Int))=bA:=by simp;omega
  have c0:=h.Il n hn;cases hh:t.here n
  .have e:Hid (Sp.cN t n=2):=hJ (by unfold Sp.cN;rw[aI k,hZ,hh];rfl);rw[hh]at c0;go_in
   go_wp2
   go_ret
   rw[e.v];exact⟨rfl,rfl⟩
  .have e:Hid (Sp.cN t n=0):=hJ (by unfold Sp.cN;rw[aI k,hZ,hh];rfl);rw[hh]at c0;go_in
   go_wp2
   go_ret
   rw[e.v];exact⟨rfl,rfl⟩
theorem mX(z:Int)(w:bD):Calls prog 215 #[aa az z] w λe w'=>e=bf (bN (Sp.lG z))/\w'=w:=by
 by_cases k:z<0\/20<=z
 .have e:Hid (Sp.lG z=1):=hJ (aJ k);by_cases h0:z<0
  .clear k;go_in
   go_wp2
   go_ret
   rw[e.v];exact⟨rfl,rfl⟩
  .have h1:decide (z<0)=bA:=by simp;omega
   have h2:20<=z:=bB
   go_in
   go_wp2
   go_ret
   rw[e.v];exact⟨rfl,rfl⟩
 .have e:Hid (Sp.lG z=0):=hJ (aI k);have h1:decide (z<0)=bA:=by simp;omega
  have h2:decide (20<=z)=bA:=by simp;omega
  go_in
  go_wp2
  go_ret
  rw[e.v];exact⟨rfl,rfl⟩
theorem kW(b:Nat)(z x:Int)(t:T)(w:bD)(h:Tb bw w b t):Calls prog 220 #[ai (bj ⟨b,0,bu⟩),aa az z,aa az x] w λe w'=>e=bf (bN (Sp.jk t z x))/\w'=w:=by
 have HF:=hJ h;by_cases k:Sp.cN t z=0
 .have HK:=hJ k;have HE:Hid (Sp.jk t z x=Sp.lG x):=hJ (aJ k);go_in
  go_wp2_with fail
  refine sC (e9 b z t _ HF.v) ?_;rintro w1 hw;subst w1;rw[HK.v,bF];go_wp2_with fail
  refine sC (mX x _) ?_;rintro w1 hw;subst w1;go_wp2
  go_ret
  rw[HE.v];exact⟨rfl,rfl⟩
 .have HE:Hid (Sp.jk t z x=Sp.cN t z):=hJ (aI k);have HN:=hJ k;go_in
  go_wp2_with fail
  refine sC (e9 b z t _ HF.v) ?_;rintro w1 hw;subst w1;rw[bH HN.v];go_wp2
  go_ret
  rw[HE.v,bH HN.v];exact⟨rfl,rfl⟩
theorem v7(n:Nat):((n:Int)== -1)=bA:=by simp
theorem pB(b n:Nat)(t:T)(d:Nat->Nat)(w:bD)(h:Tb bw w b t)(hT:Sp.Tree t d)(hn:n<6)(hh:t.here n=bw):
  Calls prog 218 #[ai (bj ⟨b,0,bu⟩),aa az n] w λe w'=>e=bf (aa az (((Sp.W t n).length:Nat):Int))/\w'=w:=by
 have HF:=hJ h;have HT:=hJ hT;have HL:Hid ((Sp.W t n).length<=4):=hJ (by rw[hT.len hn hh];exact(hT.le n hn hh).2);have HH:=hJ hh;go_in
 go_wp2
 go_loopw [5,6] (λs i wr=>∃(k:Nat) (z:Int),s=aa az k/\i=aa az z/\wr=w/\Hid (k+(Sp.W t z).length=(Sp.W t n).length/\(z= -1\/∃m:Nat,z=m/\m<6/\t.here m=bw))) (λ_ i _=>(Sp.W t (intOf i)).length)
 case atStart=>exact⟨0,n,rfl,rfl,rfl,bB, .inr ⟨n,rfl,hn,HH.v⟩⟩
 case round=>
  obtain⟨k,z,rfl,rfl,hw,HN⟩:=hrel;subst wr;rcases HN.2 with rfl|⟨m,rfl,hm,hmh⟩
  .have HE:Hid (k=(Sp.W t n).length):=hJ (by have:=HN.1;rw[Sp.p7 t (-1) bB]at this;simpa using this);go_wp2
   go_ret
   rw[<-HE.v];exact⟨rfl,rfl⟩
  .have HMH:=hJ hmh;have ST:=hJ (HT.step hm hmh);have PC:=hJ (HT.iq hm hmh);have c1:=HF.uz m hm;have hmI:(m:Int)<6:=bB
   have hne:=v7 m;have hk4:k<=4:=by have:=HN.1;have:=HL.v;omega
   go_wp2
   go_roundw
   case rel=>
    refine⟨k+1,t.par m,by go_num,by first|rfl|trivial,by first|rfl|trivial,?_,?_⟩
    .have:=HN.1;rw[ST.v,List.length_cons]at this;omega
    .rcases PC.v with⟨_,e,_⟩|⟨p,p1,p2,p3,_⟩
     .exact .inl e
     .exact .inr ⟨p,p2,p1,p3⟩
   case measure=>
    simp only[intOf];rw[ST.v,List.length_cons];omega
theorem D7(b:Nat)(x:Int)(t:T)(w:bD)(h:Tb bw w b t):Calls prog 137 #[ai (bj ⟨b,0,bu⟩),aa az x] w λe w'=>e=bf (ao #[aa az (Sp.dX t x:Int),bN (Sp.mE t x)])/\w'=w:=by
 by_cases k:Sp.lG x=0
 .have HK:=hJ k;obtain⟨n,rfl,hn⟩:=Sp.za k;have hnI:(n:Int)<20:=bB
  have c:=h.Qg n hn;by_cases o:t.of n=0
  .have HE:Hid (Sp.mE t n=2):=hJ (by unfold Sp.mE;rw[aJ k,hZ,aJ o]);have HN:Hid (Sp.dX t n=0):=hJ (by unfold Sp.dX;rw[HE.v];rfl);rw[o]at c;have c':w.cell? ⟨b,138+n,bu⟩=bj (aa az (-1)):=c;go_in
   go_wp2_with fail
   refine sC (mX _ _) ?_;rintro w1 hw;subst w1;rw[HK.v,bF];go_wp2
   go_ret2
   rw[HE.v,HN.v];exact⟨rfl,rfl⟩
  .have HE:Hid (Sp.mE t n=0):=hJ (by unfold Sp.mE;rw[aJ k,hZ,aI o]);have HN:Hid ((Sp.dX t n:Int)=(t.of n:Int)-1):=hJ (by unfold Sp.dX;rw[HE.v,aJ rfl,hZ];omega);obtain⟨v,hv⟩:=hU ((t.of n:Int)-1);have v0:(v== -1)=bA:=by simp;omega
   rw[hv]at c HN;go_in
   go_wp2_with fail
   refine sC (mX _ _) ?_;rintro w1 hw;subst w1;rw[HK.v,bF];go_wp2
   go_ret2
   rw[HE.v,HN.v];exact⟨rfl,rfl⟩
 .have HE:Hid (Sp.mE t x=Sp.lG x):=hJ (by unfold Sp.mE;rw[aI k]);have HN:Hid (Sp.dX t x=0):=hJ (by unfold Sp.dX;rw[HE.v,aI k]);have HW:=hJ k;go_in
  go_wp2_with fail
  refine sC (mX _ _) ?_;rintro w1 hw;subst w1;rw[bH HW.v];go_wp2
  go_ret2
  rw[HE.v,HN.v,bH HW.v];exact⟨rfl,rfl⟩
def Tc(f:Nat->Int)(n:Nat)(v r:Int):Prop:=(∃i:Nat,i<n/\f i=v/\(∀j,j<i->f j≠v)/\r=i)\/((∀i,i<n->f i≠v)/\r= -1)
theorem Bo(b o n cap:Nat)(f:Nat->Int)(v:Int)(w:bD)(h:∀i,i<n->w.cell? ⟨b,o+i,bu⟩=bj (aa az (f i)))(hn:n<=1000):
  Calls prog 268 #[aj (bj ⟨b,o,bu⟩) n cap,aa az v] w λe w'=>∃r,e=bf (aa az r)/\Tc f n v r/\w'=w:=by
 have H:=hJ h;go_in
 go_wp2
 go_loopw [8] (λi wr=>∃(k:Nat),i=aa az k/\k<=n/\wr=w/\Hid (∀j,j<k->f j≠v)) (λi _=>n-(intOf i).toNat)
 case atStart=>exact⟨0,rfl,bB,rfl,λj hj=>bB⟩
 case round=>
  obtain⟨k,rfl,hk,hw,HN⟩:=hrel;subst wr;by_cases hlt:k<n
  .have hltI:(k:Int)<(n:Int):=bB
   have cc:=H.v k hlt;by_cases e:f k=v
   .have HE:=hJ e;rw[e]at cc;go_wp2
    go_ret
    exact⟨_,rfl, .inl ⟨k,hlt,HE.v,HN.v,rfl⟩,rfl⟩
   .have HE:=hJ e;generalize hf:f k=u at*;have HU:=hJ hf;have e1:(v==u)=bA:=by simp;exact λc=>HE.v c.symm
    go_wp2
    go_roundw
    case rel=>exact⟨k+1,by go_num,bB,by first|rfl|trivial,λj hj=>by
     by_cases c:j=k
     .rw[c,HU.v];exact HE.v
     .exact HN.v j bB⟩
    case measure=>simp[intOf];omega
  .have hltI:¬(k:Int)<(n:Int):=bB
   go_wp2
   go_ret
   exact⟨_,rfl, .inr ⟨λi hi=>HN.v i bB,rfl⟩,rfl⟩
theorem Tb.row(w:bD)(b n:Nat)(t:T)(h:Tb bw w b t)(hn:n<6)(hh:t.here n=bw):∀i,i<21->w.cell? ⟨b,n*23+2+i,bu⟩=bj (aa az ((t.b7 n i:Int)-1)):=λi hi=>h.PK n i hn hi hh
def uY(t:T)(n x:Nat):Int:=if Sp.iV t n x=0 then -1 else(Sp.iV t n x:Int)
theorem R9{t:T}{r:Int}(h0:t.b7 n 0=0)(h:Tc (λi=>(t.b7 n i:Int)-1) 21 x r):r=uY t n x:=by
 unfold uY Sp.iV;rcases h with⟨i,hi,e,hl,rfl⟩|⟨hl,rfl⟩
 .have e':(t.b7 n i:Int)-1=x:=e;rw[Sp.Aj (P:=Sp.wS t n x) hi (by unfold Sp.wS;simp;omega) (λj hj=>by have:(t.b7 n j:Int)-1≠x:=hl j hj;unfold Sp.wS;simp;omega)];grind
 .rw[Sp.GG (P:=Sp.wS t n x) (λj hj=>by have:(t.b7 n j:Int)-1≠x:=hl j hj;unfold Sp.wS;simp;omega)];rfl
theorem AB(b n x:Nat)(t:T)(w:bD)(h:Tb bw w b t)(hn:n<6)(hh:t.here n=bw)(h0:t.b7 n 0=0):
  Calls prog 222 #[ai (bj ⟨b,n*23,bu⟩),aa az x] w λe w'=>e=bf (aa az (uY t n x))/\w'=w:=by
 have HR:=hJ (Tb.row w b n t h hn hh);have H0:=hJ h0;go_in
 go_wp2_with fail
 refine(Bo b (n*23+2) 21 21 (λi=>(t.b7 n i:Int)-1) x _ HR.v bB).mono ?_;rintro e w1 ⟨r,rfl,hi,hw⟩;subst w1;rw[R9 H0.v hi];go_wp2
 go_ret
 exact⟨rfl,rfl⟩
theorem Od(b n:Nat)(t:T)(w:bD)(h:Tb bw w b t)(hn:n<6)(hh:t.here n=bw)(hr:∃p,1<=p/\p<21/\t.b7 n p=0):
  Calls prog 221 #[ai (bj ⟨b,n*23,bu⟩)] w λe w'=>e=bf (aa az (Sp.low t n:Int))/\w'=w:=by
 have HR:Hid (∀i,i<20->w.cell? ⟨b,n*23+3+i,bu⟩=bj (aa az ((t.b7 n (i+1):Int)-1))):=hJ (λi hi=>by
  have:=Tb.row w b n t h hn hh (i+1) bB;rw[show n*23+2+(i+1)=n*23+3+i by omega]at this;exact this)
 have HX:=hJ hr;go_in
 go_wp2_with fail
 refine(Bo b (n*23+3) 20 20 (λi=>(t.b7 n (i+1):Int)-1) (-1) _ HR.v bB).mono ?_;rintro e w1 ⟨r,rfl,hi,hw⟩;subst w1;obtain⟨k,hk,rfl,hlow⟩:∃k:Nat,k<20/\r=k/\Sp.low t n=k+1:=by
  rcases hi with⟨i,hi,e,hl,rfl⟩|⟨hl,rfl⟩
  .have e':(t.b7 n (i+1):Int)-1= -1:=e;exact⟨i,hi,rfl,Sp.T7 bB bB bB (λq q1 q2 c=>by
    have:(t.b7 n (q-1+1):Int)-1≠ -1:=hl (q-1) bB;rw[show q-1+1=q by omega,c]at this;exact this rfl)⟩
  .obtain⟨p,p1,p2,p3⟩:=HX.v;have:(t.b7 n (p-1+1):Int)-1≠ -1:=hl (p-1) bB;rw[show p-1+1=p by omega,p3]at this;exact aZ rfl this
 have HL:=hJ hlow;have hk':(k:Int)<20:=bB
 go_wp2
 go_ret
 rw[HL.v];refine⟨?_,rfl⟩;go_num
theorem O4(b:Nat)(x z:Int)(t:T)(w:bD)(h:Tb bw w b t)(h0:∀n,n<6->t.b7 n 0=0):
  Calls prog 147 #[ai (bj ⟨b,0,bu⟩),aa az x,aa az z] w λe w'=>e=bf (ao #[aa az (Sp.pS t x z:Int),bN (Sp.Az t x z)])/\w'=w:=by
 have HF:=hJ h;have H0:=hJ h0;by_cases k:Sp.jk t z x=0
 .have HK:=hJ k;obtain⟨n,y,rfl,rfl,hn,hy,hh⟩:=Sp.tC k;have HH:=hJ hh;have hnI:(n:Int)<6:=bB
  have HE:Hid (Sp.Az t y n=if Sp.iV t n y=0 then 2 else 0):=hJ (by unfold Sp.Az;rw[aJ k,hZ,hZ]);have HN:Hid (Sp.pS t y n=Sp.iV t n y):=hJ (by
   unfold Sp.pS;rw[HE.v];by_cases c:Sp.iV t n y=0
   .rw[aJ c,aI bE,c]
   .rw[aI c,aJ rfl,hZ,hZ])
  go_in
  go_wp2_with fail
  refine sC (kW b n y t _ HF.v) ?_;rintro w1 hw;subst w1;rw[HK.v,bF];go_wp2_with fail
  refine sC (AB b n y t _ HF.v hn HH.v (H0.v n hn)) ?_;rintro w1 hw;subst w1;unfold uY;by_cases c:Sp.iV t n y=0
  .have HC:=hJ c;rw[aJ c];go_wp2
   go_ret2
   rw[HE.v,HN.v,HC.v];exact⟨rfl,rfl⟩
  .have HC:=hJ c;rw[aI c];generalize hp:Sp.iV t n y=p at*;have hp1:decide ((p:Int)<1)=bA:=by simp;omega
   go_wp2
   go_ret2
   rw[HE.v,HN.v,aI HC.v];exact⟨rfl,rfl⟩
 .have HE:Hid (Sp.Az t x z=Sp.jk t z x):=hJ (by unfold Sp.Az;rw[aI k]);have HN:Hid (Sp.pS t x z=0):=hJ (by unfold Sp.pS;rw[HE.v,aI k]);have HW:=hJ k;go_in
  go_wp2_with fail
  refine sC (kW b z x t _ HF.v) ?_;rintro w1 hw;subst w1;rw[bH HW.v];go_wp2
  go_ret2
  rw[HE.v,HN.v,bH HW.v];exact⟨rfl,rfl⟩
theorem Dm(b:Nat)(z p:Int)(t:T)(w:bD)(h:Tb bw w b t):
  Calls prog 61 #[ai (bj ⟨b,0,bu⟩),aa az z,aa az p] w λe w'=>e=bf (ao #[aa az (Sp.fc t z p:Int),bN (Sp.iw t z p)])/\w'=w:=by
 have HF:=hJ h;by_cases k:Sp.cN t z=0
 .have HK:=hJ k;obtain⟨n,rfl,hn,hh⟩:=Sp.oF k;have hnI:(n:Int)<6:=bB
  by_cases hp:p<1\/20<p
  .have HE:Hid (Sp.iw t n p=2):=hJ (by unfold Sp.iw;rw[aJ k,nK]);have HN:Hid (Sp.fc t n p=0):=hJ (by unfold Sp.fc;rw[HE.v];rfl);by_cases p1:p<1
   .clear h k hh hp;go_in
    go_wp2_with fail
    refine sC (e9 b n t _ HF.v) ?_;rintro w1 hw;subst w1;rw[HK.v,bF];go_wp2
    go_ret2
    rw[HE.v,HN.v];exact⟨rfl,rfl⟩
   .have p1':decide (p<1)=bA:=by simp;omega
    have p2:21<=p:=bB
    go_in
    go_wp2_with fail
    refine sC (e9 b n t _ HF.v) ?_;rintro w1 hw;subst w1;rw[HK.v,bF];go_wp2
    go_ret2
    rw[HE.v,HN.v];exact⟨rfl,rfl⟩
  .obtain⟨q,rfl⟩:=aG (show 0<=p by omega);have cc:=h.PK n q hn bB hh;have q1:decide ((q:Int)<1)=bA:=by simp;omega
   have q2:decide (21<=(q:Int))=bA:=by simp;omega
   have q3:(q:Int)<21:=bB
   by_cases c:t.b7 n q=0
   .have HE:Hid (Sp.iw t n q=2):=hJ (by unfold Sp.iw;rw[aJ k,hZ,hZ,aJ (.inr (.inr c))]);have HN:Hid (Sp.fc t n q=0):=hJ (by unfold Sp.fc;rw[HE.v];rfl);rw[c]at cc;have cc':w.cell? ⟨b,n*23+2+q,bu⟩=bj (aa az (-1)):=cc;go_in
    go_wp2_with fail
    refine sC (e9 b n t _ HF.v) ?_;rintro w1 hw;subst w1;rw[HK.v,bF];go_wp2
    go_ret2
    rw[HE.v,HN.v];exact⟨rfl,rfl⟩
   .have HE:Hid (Sp.iw t n q=0):=hJ (by unfold Sp.iw;rw[aJ k,hZ,hZ,nJ]);have HN:Hid ((Sp.fc t n q:Int)=(t.b7 n q:Int)-1):=hJ (by unfold Sp.fc;rw[HE.v,aJ rfl,hZ,hZ];omega);obtain⟨v,hv⟩:=hU ((t.b7 n q:Int)-1);have v0:(v== -1)=bA:=by simp;omega
    rw[hv]at cc HN;go_in
    go_wp2_with fail
    refine sC (e9 b n t _ HF.v) ?_;rintro w1 hw;subst w1;rw[HK.v,bF];go_wp2
    go_ret2
    rw[HE.v,HN.v];exact⟨rfl,rfl⟩
 .have HE:Hid (Sp.iw t z p=Sp.cN t z):=hJ (by unfold Sp.iw;rw[aI k]);have HN:Hid (Sp.fc t z p=0):=hJ (by unfold Sp.fc;rw[HE.v,aI k]);have HW:=hJ k;go_in
  go_wp2_with fail
  refine sC (e9 b z t _ HF.v) ?_;rintro w1 hw;subst w1;rw[bH HW.v];go_wp2
  go_ret2
  rw[HE.v,HN.v,bH HW.v];exact⟨rfl,rfl⟩
def cT(t:T)(n k:Nat):List Nat:=((List.range k).filter (Sp.jG t n)).map (λp=>t.b7 n p-1)
theorem OT{t:T}(h:t.b7 n k≠0):cT t n (k+1)=cT t n k++[t.b7 n k-1]:=by
 unfold cT;rw[List.range_succ,List.filter_append,List.map_append];simp[Sp.jG,h]
theorem RT{t:T}(h:t.b7 n k=0):cT t n (k+1)=cT t n k:=by
 unfold cT;rw[List.range_succ,List.filter_append,List.map_append];simp[Sp.jG,h]
theorem OR(t:T)(n k:Nat):(cT t n k).length<=k:=by
 have:=bW (Sp.jG t n) (List.range k);simpa[cT]using this
def rX(t:T)(n:Nat):List Value:=(List.range 21).map (λp=>aa az ((t.b7 n p:Int)-1))
theorem Ei(t:T)(n:Nat):(rX t n).length=21:=by simp[rX]
theorem Tb.Ul{t:T}(h:Tb bw w b t)(hn:n<6)(hh:t.here n=bw):w.rangeAt b (n*23+2) (rX t n):=λj v hv=>by
 have hj:j<21:=by have:=(aY.1 hv).1;rwa [Ei]at this
 rw[h.PK n j hn hj hh];simp[rX,hj]at hv;rw[hv]
theorem II(t:T)(n k:Nat)(hk:k<21)(w:bD):Sem.run prog (Instr.index 175 (au (rX t n).toArray) (aa IntKind.i64 k)) w= .ok (aa az ((t.b7 n k:Int)-1)) w:=by
 have hu:prog.underlying 175=bj (.array 21 3):=by kernel_rfl
 have h1:(k:Int)<21:=bB
 have hx:(rX t n)[k]? =bj (aa az ((t.b7 n k:Int)-1)):=by simp[rX,hk]
 simp[Instr.index,Sem.run_bind,run_underlying hu,go_sem,hx,hk]
theorem wV(b n:Nat)(t:T)(w:bD)(h:Tb bw w b t)(hn:n<6)(hh:t.here n=bw):
  Calls prog 224 #[ai (bj ⟨b,n*23,bu⟩)] w λe w'=>∃v,e=bf v/\LO w (Sp.fY t n) v w':=by
 obtain⟨i0,hi,hz0,hz1,hz2⟩:=info_parts Cq;have HR:=hJ (h.Ul hn hh);have hsz:Hid ((prog.info? 175).map (·.size)=bj (rX t n).length):=hJ (by rw[Ei];kernel_rfl);go_in
 go_wp2_with (refine wpList_load_mid rfl 175 _ rfl b (n*23+2) rfl (rX t n) (.array 21 3) HR.v bC rfl hsz.v ?_)
 go_loopw [3,10] (λl i wr=>∃(k:Nat),i=aa az k/\k<=21/\Hid (LO w (cT t n k) l wr)) (λ_ i _=>21-(intOf i).toNat)
 case atStart=>exact⟨0,rfl,bB,LO.nil w⟩
 case round=>
  obtain⟨k,rfl,hk,R⟩:=hrel;by_cases hlt:k<21
  .have hltI:(k:Int)<21:=bB
   have hix:=II t n k hlt wr;by_cases c:t.b7 n k=0
   .have HM:=hJ (RT c);rw[c]at hix;have hix':Sem.run prog (Instr.index 175 (au (rX t n).toArray) (aa IntKind.i64 k)) wr= .ok (aa az (-1)) wr:=hix;go_wp2
    go_roundw
    case rel=>exact⟨k+1,by go_num,bB,by rw[HM.v];exact R⟩
    case measure=>simp[intOf];omega
   .have HM:=hJ (OT c);obtain⟨x,hx⟩:=hU (t.b7 n k-1);rw[hx]at HM;rw[show(t.b7 n k:Int)-1=(x:Int)by omega]at hix;have hne:=v7 x;obtain⟨a,cap,hv⟩:=ib R.own;rw[hv];have HV:=hJ hv;have hlm:=OR t n k;generalize hN:(cT t n k).length=N at*;have HN:=hJ hN;go_wp2_with (at_builtin;refine wpList_append_lies _ rfl _ _ 46 (by rfl) w.heap.size 3 i0 (aa .i64 0) 1 8 Tryz.underlying46 hi hz0 hz1 hz2 rfl bE (aj a N cap) N (rowOf (cT t n k)) (by rfl) (by rw[<-HV.v,<-HN.v];exact R.own.alloc _) ⟨wr.heap.size,0,bu⟩ 1 1 [aa az x] (by rfl) rfl (cell_one_new _ _ _) (by simp[Value.oneCell']) bE (by unfold maxLen;omega) bB (by have:=R.cU.size;simp;omega) (wr.heap.size+1) (by simp) ?_;intro gg cap2 w1 hown hgrow hat hlt2;have Q1:Hid (LO w (cT t n k++[x]) (aj (bj ⟨gg,0,bu⟩) (N+1) cap2) w1):=R.more HN.v hown _ (by rw[HV.v];exact hgrow))
    go_roundw
    case rel=>exact⟨k+1,by go_num,bB,by rw[HM.v];exact Q1⟩
    case measure=>simp[intOf];omega
  .have hk21:k=21:=bB
   subst hk21;go_wp2
   go_ret
   exact⟨_,rfl,R.v⟩
def eQ(t:T)(z:Int):List Nat:=if Sp.cN t z=0 then Sp.fY t z.toNat else[]
theorem DY(b:Nat)(z:Int)(t:T)(w:bD)(h:Tb bw w b t):
  Calls prog 155 #[ai (bj ⟨b,0,bu⟩),aa az z] w λe w'=>∃v,e=bf (ao #[v,bN (Sp.cN t z)])/\LO w (eQ t z) v w':=by
 have HF:=hJ h;by_cases k:Sp.cN t z=0
 .have HK:=hJ k;obtain⟨n,rfl,hn,hh⟩:=Sp.oF k;have HH:=hJ hh;have hnI:(n:Int)<6:=bB
  go_in
  go_wp2_with fail
  refine sC (e9 b n t _ HF.v) ?_;rintro w1 hw;subst w1;rw[HK.v,bF];go_wp2_with fail
  refine(wV b n t _ HF.v hn HH.v).mono ?_;rintro e w1 ⟨v,rfl,hL⟩;have HL:=hJ hL;go_wp2
  go_ret2
  exact⟨v,by rw[HK.v];rfl,by unfold eQ;rw[aJ HK.v,hZ];exact HL.v⟩
 .have HW:=hJ k;go_in
  go_wp2_with fail
  refine sC (e9 b z t _ HF.v) ?_;rintro w1 hw;subst w1;rw[bH HW.v];go_wp2
  go_ret2
  exact⟨_,by rw[bH HW.v];rfl,by unfold eQ;rw[aI HW.v];exact LO.nil w⟩
def fG(k i:Nat):Int:=if i<k then -1 else 0
theorem Ub(k:Nat):Sp.gD (fG k) k (-1)=fG (k+1):=by
 funext i;unfold Sp.gD fG;by_cases e:i=k
 .rw[aJ e,nK]
 .rw[aI e];by_cases c:i<k
  .rw[aJ c,nK]
  .rw[aI c,nJ]
section
variable {ops:Array Oper}{rest:List Oper}{x:Oper}{a:Act}{w:bD}{Q:Exit->Act->bD->Prop}
theorem lJ(hgd:x.guard=bu)(ho:x.op= .alloc 177)(h:wpList prog ops Q rest (a.put x.dst (ai (bj ⟨w.heap.size,0,bu⟩))) (w.alloc (bh (eX bA 0 (fG 0)) 177))):wpList prog ops Q (x::rest) a w:=
 wpList_plain hgd λ_ hK=>by
  unfold Oper.wp execOp;simp only[ho];simp[go_sem];exact hK _ _ h
theorem yc(hgd:x.guard=bu)(ho:x.op= .build 177 #[])(h:wpList prog ops Q rest (a.put x.dst (au (eX bA 0 (fG 0)))) w):wpList prog ops Q (x::rest) a w:=
 wpList_plain hgd λ_ hK=>by
  unfold Oper.wp execOp;simp only[ho];simp[go_sem];exact hK _ _ h
theorem yd(hgd:x.guard=bu)(y:Operand)(p:Int)(ho:x.op= .build 177 #[(0, .const (ar bw)),(1,y)])(hy:a.eval y=aa az p)(h:wpList prog ops Q rest (a.put x.dst (au (eX bw p (fG 0)))) w):wpList prog ops Q (x::rest) a w:=
 wpList_plain hgd λ_ hK=>by
  unfold Oper.wp execOp;simp only[ho,List.map_toArray,List.map_cons,List.map_nil,hy,BigFrame.eval_const];simp[go_sem];exact hK _ _ h
end
theorem pK(w:bD)(cs:Array Value)(T:TypeId)(k:Nat)(hk:k<=cs.size):(w.alloc (bh cs T)).there w.heap.size 0 k:=λj hj=>by
 have h:=heap_alloc_new w (bh cs T);exact⟨by rw[bR h,Array.getElem?_eq_getElem bB];rfl,cE h _⟩
def rW(t:T):List Value:=(List.range 138).map (kK bw t)
theorem tH(t:T):(rW t).length=138:=by simp[rW]
theorem Tb.Uk{t:T}(h:Tb bw w b t):w.rangeAt b 0 (rW t):=λj v hv=>by
 have hj:j<138:=by have:=(aY.1 hv).1;rwa [tH]at this
 rw[Nat.zero_add,h.cell j bB];simp[rW,hj]at hv;rw[hv]
def lu(t:T)(k:Nat):Array Value:=eX (t.here k) (t.par k) (λp=>cw bw (t.here k) (t.b7 k p))
theorem Sk(t:T)(k:Nat)(hk:k<6):(rW t).toArray.extract (k*23) (k*23+23)=lu t k:=by
 apply bL;intro i;rw[Array.getElem?_extract];by_cases hi:i<23
 .rw[aJ (by simp[tH];omega)];unfold lu;rw[oa _ _ _ i hi];have:(rW t).toArray[k*23+i]? =bj (kK bw t (k*23+i)):=by rw[List.getElem?_toArray,rW,List.getElem?_map,List.getElem?_range bB];rfl
  rw[this];by_cases e0:i=0
  .subst e0;rw[aJ rfl,Nat.add_zero,dh bw t k hk]
  .by_cases e1:i=1
   .subst e1;rw[nJ,aJ rfl,dz bw t k hk]
   .rw[aI e0,aI e1];have:=dA bw t k (i-2) hk bB;rw[show k*23+2+(i-2)=k*23+i by omega]at this;rw[this]
 .rw[aI (by simp[tH];omega),aR (by unfold lu;rw[fE];omega)]
theorem IF(t:T)(k:Nat)(hk:k<6)(w:bD):Sem.run prog (Instr.index 178 (au (rW t).toArray) (aa IntKind.i64 k)) w= .ok (au (lu t k)) w:=by
 have hu:prog.underlying 178=bj (.array 6 177):=by kernel_rfl
 have h1:(k:Int)<6:=bB
 have hx:=Sk t k hk;simp at hx;simp[Instr.index,Sem.run_bind,run_underlying hu,go_sem,hx,hk]
theorem pG(t:T)(k:Nat):(lu t k).size=23:=fE _ _ _
theorem xR(t:T)(k:Nat):(lu t k).all (·.oneCell')=bw:=sJ _ _ _
theorem Lx{w0:bD}(hb:Below w0.heap.size w0 w)(cs:Array Value)(T:TypeId)(hs:cs.size=23)(t:Sp.T)(k:Nat):
  ((w.alloc (bh cs T)).setCells w.heap.size 0 (lu t k).toList).cell? ⟨w.heap.size,0,bu⟩=bj (ar (t.here k))/\((w.alloc (bh cs T)).setCells w.heap.size 0 (lu t k).toList).cell? ⟨w.heap.size,1,bu⟩=bj (aa az (t.par k))/\Below w0.heap.size w0 ((w.alloc (bh cs T)).setCells w.heap.size 0 (lu t k).toList):=by
 have ht:=pK w cs T 23 bB;have hl:(lu t k).toList.length=23:=by rw[aB,pG]
 have hin:∀j,j<23->((w.alloc (bh cs T)).setCells w.heap.size 0 (lu t k).toList).cell? ⟨w.heap.size,0+j,bu⟩=(lu t k)[j]? :=λj hj=>by
  rw[aS w.heap.size (lu t k).toList 0 _ (λi hi=>(ht i bB).1) j bB,<-aM,aW bB]
 refine⟨?_,?_,?_⟩
 .have:=hin 0 bB;rw[Nat.zero_add]at this;rw[this];exact oa _ _ _ 0 bB
 .have:=hin 1 bB;rw[Nat.zero_add]at this;rw[this];exact oa _ _ _ 1 bB
 .have f:bG w.heap.size w0 ((w.alloc (bh cs T)).setCells w.heap.size 0 (lu t k).toList):=bG.setCells _ _ (bG.cL (hb.alloc hb.size _));have hsz:=hb.size;exact⟨f.os,f.tape,f.output,f.size,λj hj=>f.block j hj bB⟩
theorem rj(b n:Nat)(t:T)(w:bD)(h:Tb bw w b t):
  Calls prog 225 #[ai (bj ⟨b,0,bu⟩),aa az n] w λe w'=>e=bf (ar (Sp.kids t n))/\Below w.heap.size w w':=by
 have HR:=hJ h.Uk;have hsz:Hid ((prog.info? 178).map (·.size)=bj (rW t).length):=hJ (by rw[tH];kernel_rfl);have hs1:Hid (∀k,(prog.info? 177).map (·.size)=bj (lu t k).size):=hJ (λk=>by rw[pG];kernel_rfl);go_in
 go_wp2_with (refine wpList_load_mid rfl 178 _ rfl b 0 rfl (rW t) (.array 6 177) HR.v bC rfl hsz.v ?_)
 go_loopw [11] (λi wr=>∃(k:Nat),i=aa az k/\k<=6/\Hid (Below w.heap.size w wr/\∀j,j<k->Sp.uJ t n j=bA)) (λi _=>6-(intOf i).toNat)
 case atStart=>exact⟨0,rfl,bB,aQ _ _,λj hj=>bB⟩
 case round=>
  obtain⟨k,rfl,hk,R⟩:=hrel;by_cases hlt:k<6
  .have hltI:(k:Int)<6:=bB
   have hix:=IF t k hlt wr;have HKB:Hid (Sp.uJ t n k=(t.here k&&decide (t.par k=(n:Int)))):=hJ rfl;have NX:Hid (Sp.uJ t n k=bA->∀j,j<k+1->Sp.uJ t n j=bA):=hJ (λc j hj=>by
    by_cases e:j=k
    .rw[e];exact c
    .exact R.2 j bB)
   have NSP:=hJ (Lx R.1 (eX bA 0 (fG 0)) 177 (fE _ _ _) t k);have HHK:Hid (Sp.uJ t n k=bw->Sp.kids t n=bw):=hJ (λc=>by unfold Sp.kids;exact List.any_eq_true.2 ⟨k,List.mem_range.2 hlt,c⟩);generalize t.here k=hh at*;generalize t.par k=pp at*;cases hh
   .go_wp2_with (first|(refine lJ rfl rfl ?_)|(refine wpList_store_mid rfl 177 _ _ rfl wr.heap.size 0 (lu t k) rfl rfl (by rw[pG];exact pK _ _ _ 23 (by rw[fE];exact aL _)) (hs1.v k) (xR t k) ?_;generalize hW:World.setCells _ _ _ _=W2;obtain⟨n0,n1⟩:W2.cell? ⟨wr.heap.size,0,bu⟩=bj _/\W2.cell? ⟨wr.heap.size,1,bu⟩=bj _:=(by rw[<-hW];exact⟨NSP.1,NSP.2.1⟩);have NB:Hid (Below w.heap.size w W2):=hJ (by rw[<-hW];exact NSP.2.2)))
    go_roundw
    case rel=>exact⟨k+1,by go_num,bB,NB.v,NX.v (by rw[HKB.v];rfl)⟩
    case measure=>simp[intOf];omega
   .by_cases hp:pp=(n:Int)
    .subst hp;go_wp2_with (first|(refine lJ rfl rfl ?_)|(refine wpList_store_mid rfl 177 _ _ rfl wr.heap.size 0 (lu t k) rfl rfl (by rw[pG];exact pK _ _ _ 23 (by rw[fE];exact aL _)) (hs1.v k) (xR t k) ?_;generalize hW:World.setCells _ _ _ _=W2;obtain⟨n0,n1⟩:W2.cell? ⟨wr.heap.size,0,bu⟩=bj _/\W2.cell? ⟨wr.heap.size,1,bu⟩=bj _:=(by rw[<-hW];exact⟨NSP.1,NSP.2.1⟩);have NB:Hid (Below w.heap.size w W2):=hJ (by rw[<-hW];exact NSP.2.2)))
     go_ret
     exact⟨cX (HHK.v (by rw[HKB.v];simp)).symm,NB.v⟩
    .have hp':(pp==(n:Int))=bA:=by simp;exact hp
     go_wp2_with (first|(refine lJ rfl rfl ?_)|(refine wpList_store_mid rfl 177 _ _ rfl wr.heap.size 0 (lu t k) rfl rfl (by rw[pG];exact pK _ _ _ 23 (by rw[fE];exact aL _)) (hs1.v k) (xR t k) ?_;generalize hW:World.setCells _ _ _ _=W2;obtain⟨n0,n1⟩:W2.cell? ⟨wr.heap.size,0,bu⟩=bj _/\W2.cell? ⟨wr.heap.size,1,bu⟩=bj _:=(by rw[<-hW];exact⟨NSP.1,NSP.2.1⟩);have NB:Hid (Below w.heap.size w W2):=hJ (by rw[<-hW];exact NSP.2.2)))
     go_roundw
     case rel=>exact⟨k+1,by go_num,bB,NB.v,NX.v (by rw[HKB.v,aT hp];simp)⟩
     case measure=>simp[intOf];omega
  .have hltI:¬(k:Int)<6:=bB
   go_wp2
   go_ret
   refine⟨cX ?_,R.1⟩;cases hk2:Sp.kids t n
   .rfl
   .obtain⟨j,hj,kj⟩:=List.any_eq_true.1 hk2;rw[R.2 j (by have:=List.mem_range.1 hj;omega)]at kj;cases kj
structure jU (w W:bD)(b2 b3:Nat)(p:Int)(k:Nat):Prop where
 cU:Below w.heap.size w W
 le:w.heap.size<=b2
 ne:b2<b3
 two:∃cs,W.heap[b2]? =bj (bh cs 177 (0,0))/\cs.size=23
 Qu:W.heap[b3]? =bj (bh (eX bw p (fG k)) 177 (0,0))
theorem jU.set{W:bD}(h:jU w W b2 b3 p k)(hk:k<21):jU w (W.setCell ⟨b3,2+k,bu⟩ (aa az (-1))) b2 b3 p (k+1):=by
 have h1:=h.le;have h2:=h.ne;refine⟨h.cU.setCell (by show _<=b3;omega) _,h1,h2,?_,?_⟩
 .obtain⟨cs,c1,c2⟩:=h.two;exact⟨cs,(dE _ _ _ _ bB).trans c1,c2⟩
 .rw[cQ h.Qu,Sr _ _ _ k (-1) hk,Ub]
theorem uI(b:Nat)(T:TypeId)(vs:List Value)(w:bD)(C:Array Value)(h:w.heap[b]? =bj (bh C T (0,0)))(hs:C.size=vs.length):(w.setCells b 0 vs).heap[b]? =bj (bh vs.toArray T (0,0)):=by
 obtain⟨C',h1,h2⟩:=eP b vs 0 w C h;rw[h1];congr 2;apply bL;intro i;by_cases hi:i<vs.length
 .have:=aS b vs 0 w (λj hj=>by rw[bR h,Array.getElem?_eq_getElem bB];rfl) i hi;rw[bR h1,Nat.zero_add]at this;rw[this,List.getElem?_toArray,aW hi]
 .rw[aR bB,aR (by simp;omega)]
theorem jU.start(w:bD)(p:Int):jU w (((w.alloc (bh (eX bA 0 (fG 0)) 177)).alloc (bh (eX bA 0 (fG 0)) 177)).setCells (w.alloc (bh (eX bA 0 (fG 0)) 177)).heap.size 0 (eX bw p (fG 0)).toList) w.heap.size (w.alloc (bh (eX bA 0 (fG 0)) 177)).heap.size p 0:=by
 have e1:(w.alloc (bh (eX bA 0 (fG 0)) 177)).heap.size=w.heap.size+1:=by simp
 have f:bG (w.alloc (bh (eX bA 0 (fG 0)) 177)).heap.size w (((w.alloc (bh (eX bA 0 (fG 0)) 177)).alloc (bh (eX bA 0 (fG 0)) 177)).setCells (w.alloc (bh (eX bA 0 (fG 0)) 177)).heap.size 0 (eX bw p (fG 0)).toList):=bG.setCells _ _ (bG.cL (((aQ _ w).alloc (aL _) _).alloc (by simp) _));refine⟨⟨f.os,f.tape,f.output,f.size,λj hj=>f.block j hj bB⟩,aL _,bB,⟨_,?_,fE bA 0 (fG 0)⟩,?_⟩
 .rw[ng _ _ _ _ _ bB];rw[Below.heap_alloc _ _ _ bB];exact heap_alloc_new w _
 .have:=uI (w.alloc (bh (eX bA 0 (fG 0)) 177)).heap.size 177 (eX bw p (fG 0)).toList ((w.alloc (bh (eX bA 0 (fG 0)) 177)).alloc (bh (eX bA 0 (fG 0)) 177)) _ (heap_alloc_new _ _) (by rw[fE,sI]);rw[this]
theorem jU.range{W:bD}(h:jU w W b2 b3 p k):W.rangeAt b3 0 (eX bw p (fG k)).toList:=λj v hv=>by
 rw[Nat.zero_add,bR h.Qu,<-aM,hv]
theorem jU.there{w W:bD}{b2 b3:Nat}{p:Int}{k:Nat}(h:jU w W b2 b3 p k)(n:Nat)(hn:n=23):W.there b2 0 n:=by
 obtain⟨cs,c1,c2⟩:=h.two;intro j hj;exact⟨by rw[bR c1,Array.getElem?_eq_getElem bB];rfl,cE c1 _⟩
theorem jU.Ut(w:bD)(p:Int):jU w (((w.alloc (bh (eX bA 0 (fG 0)) 177)).alloc (bh (eX bA 0 (fG 0)) 177)).setCells (w.heap.size+1) 0 (eX bw p (fG 0)).toList) w.heap.size (w.heap.size+1) p 0:=by
 have:=jU.start w p;rw[show(w.alloc (bh (eX bA 0 (fG 0)) 177)).heap.size=w.heap.size+1 by simp]at this;exact this
theorem jU.cell{w W:bD}{b2 b3:Nat}{p:Int}{k:Nat}(h:jU w W b2 b3 p k)(hk:k<21):W.cell? ⟨b3,2+k,bu⟩=bj (aa az (fG k k)):=by
 rw[bR h.Qu,oa _ _ _ (2+k) bB,nJ,nJ,show 2+k-2=k by omega]
theorem jU.fz{W:bD}(h:jU w W b2 b3 p k)(o:Nat):W.frozen? ⟨b3,o,bu⟩=bA:=cE h.Qu o
theorem jU.done{W:bD}(h:jU w W b2 b3 p k)(cs:List Value)(hc:cs.length=23):(W.setCells b2 0 cs).rangeAt b2 0 cs/\Below w.heap.size w (W.setCells b2 0 cs):=by
 refine⟨World.rangeAt_setCells_same _ _ _ _ (h.there _ hc),?_⟩;have f:bG b2 W (W.setCells b2 0 cs):=bG.setCells _ _ (bG.refl _ _);exact f.below h.cU h.le h.cU.size
theorem uX(p:Int)(w:bD):
  Calls prog 161 #[aa az p] w λe w'=>e=bf (au (eX bw p (fG 21)))/\Below w.heap.size w w':=by
 have hs1:Hid ((prog.info? 177).map (·.size)=bj (eX bw p (fG 0)).size):=hJ (by rw[fE];kernel_rfl);have hs2:Hid ((prog.info? 177).map (·.size)=bj (eX bw p (fG 21)).toList.length):=hJ (by rw[sI];kernel_rfl);have hs3':Hid ((prog.info? 177).map (·.size)=bj (eX bw p (fG 21)).size):=hJ (by rw[fE];kernel_rfl);have S0:=hJ (jU.Ut w p);go_in
 go_wp2_with (first|(refine lJ rfl rfl ?_)|(refine yd rfl _ p rfl rfl ?_)|(refine wpList_store_mid rfl 177 _ _ rfl _ 0 (eX bw p (fG 0)) rfl rfl (by rw[fE];exact pK _ _ _ 23 (by rw[fE];exact aL _)) hs1.v (sJ _ _ _) ?_))
 refine cJ (λW=>jU w W w.heap.size (w.heap.size+1) p 0) S0.v ?_;intro W1 h1;have S1:=hJ h1;generalize w.heap.size+1=b3 at*;obtain⟨b2,hb2⟩:=hU (w.heap.size);rw[hb2]at S1|-;have HB2:=hJ hb2;go_loopw [7] (λi wr=>∃(k:Nat),i=aa az k/\k<=21/\Hid (jU w wr b2 b3 p k)) (λi _=>21-(intOf i).toNat)
 case atStart=>exact⟨0,rfl,bB,S1⟩
 case round=>
  obtain⟨k,rfl,hk,S⟩:=hrel;by_cases hlt:k<21
  .have hltI:(k:Int)<21:=bB
   have c0:=S.cell hlt;have cf:=S.fz;go_wp2
   go_roundw
   case rel=>exact⟨k+1,by go_num,bB,S.set hlt⟩
   case measure=>simp[intOf];omega
  .have hk21:k=21:=bB
   subst hk21;obtain⟨A,hA⟩:=hU (eX bw p (fG 21));have hl:Hid (A.toList.length=23):=hJ (by rw[<-hA];exact sI _ _ _);have hr:Hid (wr.rangeAt b3 0 A.toList):=hJ (by rw[<-hA];exact S.range);have h1:Hid (A.all (·.oneCell')=bw):=hJ (by rw[<-hA];exact sJ _ _ _);have ht:Hid (wr.there b2 0 A.size):=hJ (S.there _ (by rw[<-hA];exact fE _ _ _));have hD:=hJ (S.done A.toList hl.v);rw[hA]at hs2;have hs3:Hid ((prog.info? 177).map (·.size)=bj A.size):=hJ (by rw[<-hA];exact hs3'.v);have HA:=hJ hA;go_wp2_with (first|(refine wpList_load_mid rfl 177 _ rfl b3 0 rfl A.toList _ hr.v Tryz.underlying177 rfl hs2.v ?_;rw[Array.toArray_toList])|(refine wpList_store_mid rfl 177 _ _ rfl b2 0 A rfl rfl ht.v hs3.v h1.v ?_))
   have hld:=run_loadVar_mid (P:=prog) (wr.setCells b2 0 A.toList) b2 0 177 A.toList _ hD.1 Tryz.underlying177 rfl hs2.v;rw[Array.toArray_toList]at hld;generalize hW:World.setCells _ _ _ _=W2 at*;refine bodyPost_ret (v:=au A) (by simp[results,Tryz.results161,Act.put,asAddr,hld]) rfl ⟨by rw[HA.v],hD.2⟩
theorem Lw(q:Nat)(hq:q<21):fG 21 q=cw bw bw ((λ_=>0) q):=by unfold fG;rw[aJ hq];rfl
def Hn:Array Value:=((List.range 158).map λi=>if i<138/\i%23=0 then ar bA else aa .i64 0).toArray
theorem Ve:Tryz.zeroCells181=Hn:=by kernel_rfl
theorem Sz:Hn.size=158:=by simp[Hn]
theorem Cx(i:Nat)(h:i<158):Hn[i]? =bj (if i<138/\i%23=0 then ar bA else aa .i64 0):=by simp[Hn,h]
def tz(c:Bool):T:=⟨λ_=>bA,λ_=>0,λ_ _=>0,λ_=>if c then 1 else 0⟩
theorem Ss{c:Bool}(h:w.heap[b]? =bj (bh Hn (Vx c) (0,0))):Tb c w b (tz c):=by
 refine⟨⟨_,h,Sz⟩,gA (λm hm=>?_) (λm hm=>?_) (λm q hm hq=>?_) (λy hy=>?_)⟩
 .rw[dh c _ m hm,bR h,Cx _ bB,nK];rfl
 .rw[dz c _ m hm,bR h,Cx _ bB,nJ];rfl
 .rw[dA c _ m q hm hq,bR h,Cx _ bB,nJ];cases c<;>rfl
 .rw[ec,bR h,Cx _ bB,nJ];cases c<;>rfl
def tk(k:Nat):T:=⟨λn=>decide (n=0),λn=>if n=0 then -1 else 0,λ_ _=>0,λx=>if x<k then 0 else 1⟩
theorem Vb(h:Tb bw w b (tk k))(hk:k<20):Tb bw (w.setCell ⟨b,138+k,bu⟩ (aa az (-1))) b (tk (k+1)):=by
 have:=h.setOf k 0 hk;refine this.congr (gA (λm hm=>by rw[dh bw _ m hm,dh bw _ m hm];rfl) (λm hm=>by rw[dz bw _ m hm,dz bw _ m hm];rfl) (λm q hm hq=>by rw[dA bw _ m q hm hq,dA bw _ m q hm hq];rfl) (λy hy=>?_));unfold tk Sp.tX;grind
theorem Uw(h:Tb bw w b (tk 20)):Tb bw w b Sp.t0:=
 h.congr (gA (λm hm=>by rw[dh bw _ m hm,dh bw _ m hm];rfl) (λm hm=>by rw[dz bw _ m hm,dz bw _ m hm];rfl) (λm q hm hq=>by rw[dA bw _ m q hm hq,dA bw _ m q hm hq];rfl) (λy hy=>by rw[ec,ec];unfold tk;simp only[aJ hy];rfl))
theorem Pu(h:Tb bw w b (tz bw)):Tb bw (w.setCells b 0 (eX bw (-1) (fG 21)).toList) b (tk 0):=by
 have:=h.xQ 0 bB bw (-1) (fG 21) (λ_=>0) Lw;refine this.congr (gA (λm hm=>?_) (λm hm=>?_) (λm q hm hq=>?_) (λy hy=>?_))
 .rw[dh bw _ m hm,dh bw _ m hm];by_cases e:m=0
  .subst e;rfl
  .simp[tk,tz,Sp.nN,e]
 .rw[dz bw _ m hm,dz bw _ m hm];by_cases e:m=0
  .subst e;rfl
  .simp[tk,tz,Sp.gD,e]
 .rw[dA bw _ m q hm hq,dA bw _ m q hm hq];by_cases e:m=0
  .subst e;rfl
  .simp[tk,tz,Sp.nN,e]
 .rw[ec,ec];rfl
theorem sA(w:bD):Calls prog 83 #[] w λe w'=>e=bf (ai (bj ⟨w.heap.size,0,bu⟩))/\Tb bw w' w.heap.size Sp.t0/\Below w.heap.size w w'/\w.heap.size<w'.heap.size:=by
 have Z:Hid (Tb bw (w.alloc (bh Tryz.zeroCells181 181)) w.heap.size (tz bw)/\Below w.heap.size w (w.alloc (bh Tryz.zeroCells181 181))):=hJ (by
  rw[Ve];exact⟨Ss (heap_alloc_new w _),(aQ _ _).alloc (aL _) _⟩)
 go_in
 go_wp2
 refine cJ (λW=>Tb bw W w.heap.size (tz bw)/\Below w.heap.size w W) Z.v ?_;rintro W1 ⟨h1,hb1⟩;have S1:=hJ (aK h1 hb1);obtain⟨b,hb⟩:=hU (w.heap.size);rw[hb]at S1|-;have HB:=hJ hb;go_region_held3 (λ_=>True) (trivial) ((go_at_call 161;refine sC (uX _ _) ?_;rintro w2 hb2;have T2:Hid (Tb bw w2 b (tz bw)/\Below b w w2):=hJ ⟨S1.1.drew.below hb2,S1.2.drew.trans (hb2.mono (bI S1.1.lt))⟩;obtain⟨A,hA⟩:=hU (eX bw (-1) (fG 21));have HA:=hJ hA;have hAs:A.size=23:=(by rw[<-hA];exact fE _ _ _);have st:=T2.1.store 0 bB bw (-1) (fG 21);rw[Nat.zero_mul]at st;rw[hA]at st|-))
 generalize hW2:World.setCells _ _ _ _=W2;have S2:Hid (Tb bw W2 b (tk 0)/\Below b w W2):=hJ (by
  have f:bG b w2 W2:=by rw[<-hW2];exact bG.setCells _ _ (bG.refl _ _)
  refine⟨?_,f.below T2.2 (aL _) (bI T2.1.lt)⟩;rw[<-hW2,<-HA.v];exact Pu T2.1)
 go_wp2
 go_loopw [10] (λi wr=>∃(k:Nat),i=aa az k/\k<=20/\Hid (Tb bw wr b (tk k)/\Below b w wr)) (λi _=>20-(intOf i).toNat)
 case atStart=>exact⟨0,rfl,bB,S2⟩
 case round=>
  obtain⟨k,rfl,hk,S⟩:=hrel;by_cases hlt:k<20
  .have hltI:(k:Int)<20:=bB
   have c0:=S.1.Tj k hlt;have cf:=S.1.frozen;go_wp2
   go_roundw
   case rel=>exact⟨k+1,by go_num,bB,Vb S.1 hlt,S.2.setCell (by show b<=b;omega) _⟩
   case measure=>simp[intOf];omega
  .have hk20:k=20:=bB
   subst hk20;go_wp2
   go_ret
   rw[HB.v];exact⟨rfl,Uw S.1,S.2,S.1.lt⟩
theorem JU(b:Nat)(z:Int)(t:T)(w:bD)(h:Tb bw w b t)(k:Sp.cN t z≠0):
  Calls prog 140 #[ai (bj ⟨b,0,bu⟩),aa az z] w λe w'=>e=bf (ao #[aa az 0,bN (Sp.cN t z)])/\w'=w:=by
 have HF:=hJ h;have HW:=hJ k;go_in
 go_wp2_with fail
 refine sC (e9 b z t _ HF.v) ?_;rintro w1 hw;subst w1;rw[bH HW.v];go_wp2
 go_ret2
 rw[bH HW.v];exact⟨rfl,rfl⟩
theorem xg(b n:Nat)(t:T)(d:Nat->Nat)(w:bD)(h:Tb bw w b t)(hT:Sp.Tree t d)(hn:n<6)(hh:t.here n=bw)(hl:4<=(Sp.W t n).length):
  Calls prog 140 #[ai (bj ⟨b,0,bu⟩),aa az n] w λe w'=>e=bf (ao #[aa az 0,bN 7])/\w'=w:=by
 have HF:=hJ h;have HT:=hJ (aK hT hh);have HK:=hJ (Sp.jP hn hh);go_in
 go_wp2_with fail
 refine sC (e9 b n t _ HF.v) ?_;rintro w1 hw;subst w1;rw[HK.v,bF];go_wp2_with fail
 refine sC (pB b n t d _ HF.v HT.1 hn HT.2) ?_;rintro w1 hw;subst w1;generalize (Sp.W t n).length=L at*;have hlI:(4:Int)<=(L:Int):=bB
 go_wp2
 go_ret2
 exact⟨rfl,rfl⟩
theorem xh(b n:Nat)(t:T)(d:Nat->Nat)(w:bD)(h:Tb bw w b t)(hT:Sp.Tree t d)(hn:n<6)(hh:t.here n=bw)(hl:(Sp.W t n).length<4):
  Calls prog 140 #[ai (bj ⟨b,0,bu⟩),aa az n] w λe w'=>
   (∃k:Nat,k<6/\t.here k=bA/\(∀j,j<k->t.here j=bw)/\e=bf (ao #[aa az k,bN 0])/\Tb bw w' b {t with here:=Sp.nN t.here k bw,par:=Sp.gD t.par k n,b7:=λa q=>if a=k then 0 else t.b7 a q}/\bG b w w')\/((∀j,j<6->t.here j=bw)/\e=bf (ao #[aa az 0,bN 4])/\w'=w):=by
 have HF:=hJ h;have HT:=hJ (aK hT hh);have HK:=hJ (Sp.jP hn hh);go_in
 go_wp2_with fail
 refine sC (e9 b n t _ HF.v) ?_;rintro w1 hw;subst w1;rw[HK.v,bF];go_wp2_with fail
 refine sC (pB b n t d _ HF.v HT.1 hn HT.2) ?_;rintro w1 hw;subst w1;generalize (Sp.W t n).length=L at*;have hlI:decide ((4:Int)<=(L:Int))=bA:=by simp;omega
 go_wp2_with fail
 go_loopw [19] (λi wr=>∃(k:Nat),i=aa az k/\k<=6/\wr=w/\Hid (∀j,j<k->t.here j=bw)) (λi _=>6-(intOf i).toNat)
 case atStart=>exact⟨0,rfl,bB,rfl,λj hj=>bB⟩
 case round=>
  obtain⟨k,rfl,hk,hw,HN⟩:=hrel;subst wr;by_cases hlt:k<6
  .have hltI:(k:Int)<6:=bB
   have c0:=HF.Il k hlt;cases hkh:t.here k
   .have HKH:=hJ hkh;rw[hkh]at c0;go_wp2_with fail
    go_region_held3 (λ_=>True) (trivial) ((go_at_call 161;refine sC (uX _ _) ?_;rintro w2 hb2;have T2:Hid (Tb bw w2 b t/\bG b w w2):=hJ ⟨HF.drew.below hb2,(bG.refl b w).drew.trans (bG.cL hb2)⟩;obtain⟨A,hA⟩:=hU (eX bw (n:Int) (fG 21));have HA:=hJ hA;have hAs:A.size=23:=(by rw[<-hA];exact fE _ _ _);have st:=T2.1.store k hlt bw (n:Int) (fG 21);rw[hA]at st|-))
    generalize hW2:World.setCells _ _ _ _=W2;have S2:Hid (Tb bw W2 b {t with here:=Sp.nN t.here k bw,par:=Sp.gD t.par k n,b7:=λa q=>if a=k then 0 else t.b7 a q}/\bG b w W2):=hJ (by
     refine⟨?_,by rw[<-hW2];exact bG.setCells _ _ T2.2⟩;rw[<-hW2,<-HA.v];exact T2.1.xQ k hlt bw n (fG 21) (λ_=>0) Lw)
    go_wp2
    go_ret2
    exact .inl ⟨k,hlt,HKH.v,HN.v,rfl,S2.1,S2.2⟩
   .have HKH:=hJ hkh;rw[hkh]at c0;go_wp2
    go_roundw
    case rel=>exact⟨k+1,by go_num,bB,by first|rfl|trivial,λj hj=>by
     by_cases c:j=k
     .rw[c];exact HKH.v
     .exact HN.v j bB⟩
    case measure=>simp[intOf];omega
  .have hltI:¬(k:Int)<6:=bB
   go_wp2
   go_ret2
   exact .inr ⟨λj hj=>HN.v j bB,rfl,rfl⟩
theorem vU(b:Nat)(z:Int)(t:T)(d:Nat->Nat)(w:bD)(h:Tb bw w b t)(hI:Sp.Inv t d):
  Calls prog 140 #[ai (bj ⟨b,0,bu⟩),aa az z] w λe w'=>e=bf (ao #[aa az (Sp.nS t z:Int),bN (Sp.iY t z)])/\Tb bw w' b (Sp.ga t z)/\bG b w w':=by
 by_cases k:Sp.cN t z=0
 .obtain⟨n,rfl,hn,hh⟩:=Sp.oF k;by_cases hl:4<=(Sp.W t n).length
  .have e1:Sp.iY t n=7:=by unfold Sp.iY;rw[aJ k,aJ hl]
   have e2:Sp.nS t n=0:=by unfold Sp.nS;rw[e1];rfl
   have e3:Sp.ga t n=t:=by unfold Sp.ga;rw[e1];rfl
   refine sC (xg b n t d w h hI.tree hn hh hl) ?_;rintro w' rfl;rw[e1,e2,e3];exact⟨rfl,h,bG.refl _ _⟩
  .refine(xh b n t d w h hI.tree hn hh bB).mono ?_;rintro e w' (⟨m,hm,hmh,hml,rfl,ht,hf⟩|⟨hall,rfl,rfl⟩)
   .have ef:=Sp.Oa hm hmh hml;have e1:Sp.iY t n=0:=by unfold Sp.iY;rw[aJ k,aI hl,ef,nJ]
    have e2:Sp.nS t n=m:=by unfold Sp.nS;rw[e1,aJ rfl,ef]
    rw[e1,e2];refine⟨rfl,?_,hf⟩;unfold Sp.ga;rw[e1,aJ rfl,ef];refine ht.congr (gA (λa ha=>by rw[dh bw _ a ha,dh bw _ a ha]) (λa ha=>by rw[dz bw _ a ha,dz bw _ a ha]) (λa q ha hq=>?_) (λy hy=>by rw[ec,ec]));rw[dA bw _ a q ha hq,dA bw _ a q ha hq];by_cases c:a=m
    .subst c;simp[hI.dead ha hq hmh]
    .simp[c]
   .have ef:=Sp.Oc hall;have e1:Sp.iY t n=4:=by unfold Sp.iY;rw[aJ k,aI hl,ef,aJ rfl]
    have e2:Sp.nS t n=0:=by unfold Sp.nS;rw[e1];rfl
    have e3:Sp.ga t n=t:=by unfold Sp.ga;rw[e1];rfl
    rw[e1,e2,e3];exact⟨rfl,h,bG.refl _ _⟩
 .have e1:Sp.iY t z=Sp.cN t z:=by unfold Sp.iY;rw[aI k]
  have e2:Sp.nS t z=0:=by unfold Sp.nS;rw[e1,aI k]
  have e3:Sp.ga t z=t:=by unfold Sp.ga;rw[e1,aI k]
  refine sC (JU b z t w h k) ?_;rintro w' rfl;rw[e1,e2,e3];exact⟨rfl,h,bG.refl _ _⟩
theorem Iu(b:Nat)(z:Int)(t:T)(w:bD)(h:Tb bw w b t)(k:Sp.cN t z≠0):
  Calls prog 153 #[ai (bj ⟨b,0,bu⟩),aa az z] w λe w'=>e=bf (bN (Sp.cN t z))/\w'=w:=by
 have HF:=hJ h;have HW:=hJ k;go_in
 go_wp2_with fail
 refine sC (e9 b z t _ HF.v) ?_;rintro w1 hw;subst w1;rw[bH HW.v];go_wp2
 go_ret
 rw[bH HW.v];exact⟨rfl,rfl⟩
theorem Kj(b:Nat)(t:T)(w:bD)(h:Tb bw w b t)(k:Sp.cN t 0=0):
  Calls prog 153 #[ai (bj ⟨b,0,bu⟩),aa az 0] w λe w'=>e=bf (bN 5)/\w'=w:=by
 have HF:=hJ h;have HK:=hJ k;go_in
 go_wp2_with fail
 refine sC (e9 b 0 t _ HF.v) ?_;rintro w1 hw;subst w1;rw[HK.v,bF];go_wp2
 go_ret
 exact⟨rfl,rfl⟩
theorem Ki(b n:Nat)(t:T)(w:bD)(h:Tb bw w b t)(n0:n≠0)(hn:n<6)(hh:t.here n=bw):
  Calls prog 153 #[ai (bj ⟨b,0,bu⟩),aa az n] w λe w'=>
   ((Sp.fY t n≠[]\/Sp.kids t n=bw)/\e=bf (bN 5)/\Below w.heap.size w w')\/(Sp.fY t n=[]/\Sp.kids t n=bA/\e=bf (bN 0)/\Tb bw w' b {t with here:=Sp.nN t.here n bA,par:=Sp.gD t.par n 0,b7:=λa q=>if a=n then 0 else t.b7 a q}/\bG b w w'):=by
 have HF:=hJ h;have HH:=hJ hh;have HK:=hJ (Sp.jP hn hh);have nz:((n:Int)==0)=bA:=by simp;omega
 have hnI:(n:Int)<6:=bB
 have hs0:Hid ((prog.info? 177).map (·.size)=bj (eX bA 0 (fG 0)).size):=hJ (by rw[fE];kernel_rfl);go_in
 go_wp2_with fail
 refine sC (e9 b n t _ HF.v) ?_;rintro w1 hw;subst w1;rw[HK.v,bF];go_wp2_with fail
 refine(wV b n t _ HF.v hn HH.v).mono ?_;rintro e w1 ⟨v,rfl,hL⟩;obtain⟨a,cap,hv⟩:=ib hL.own;subst hv;have B1:=hJ hL.cU;by_cases c:Sp.fY t n=[]
 .have HC:=hJ c;rw[c];go_wp2_with fail
  refine sC (rj b n t _ (HF.below B1.v)) ?_;rintro w2 hb2;have B2:=hJ (B1.trans (hb2.mono B1.size));cases hkd:Sp.kids t n
  .have HKD:=hJ hkd;have T2:=hJ (HF.below B2.v);have S2:Hid (Tb bw (w2.setCells b (n*23) (eX bA 0 (fG 0)).toList) b {t with here:=Sp.nN t.here n bA,par:=Sp.gD t.par n 0,b7:=λa q=>if a=n then 0 else t.b7 a q}/\bG b w (w2.setCells b (n*23) (eX bA 0 (fG 0)).toList)):=hJ ⟨T2.xQ n hn bA 0 (fG 0) (λ_=>0) (λq hq=>by unfold fG;rw[nJ];rfl),bG.setCells _ _ (bG.cL B2.v)⟩;go_wp2_with (first|(refine yc rfl rfl ?_)|(refine wpList_store_mid rfl 177 _ _ rfl b (n*23) (eX bA 0 (fG 0)) rfl rfl (T2.there n hn _ (fE _ _ _)) hs0.v (sJ _ _ _) ?_;generalize hW:World.setCells _ _ _ _=W2;have S3:Hid (Tb bw W2 b {t with here:=Sp.nN t.here n bA,par:=Sp.gD t.par n 0,b7:=λa q=>if a=n then 0 else t.b7 a q}/\bG b w W2):=hJ (by rw[<-hW];exact S2.v)))
   go_ret
   exact .inr ⟨HC.v,HKD.v,rfl,S3.1,S3.2⟩
  .have HKD:=hJ hkd;go_wp2
   go_ret
   exact .inl ⟨.inr HKD.v,rfl,B2.v⟩
 .have HC:=hJ c;have hlen:0<(Sp.fY t n).length:=List.length_pos_iff.2 c;generalize (Sp.fY t n).length=L at*;have hlI:(0:Int)<(L:Int):=bB
  go_wp2
  go_ret
  exact .inl ⟨.inl HC.v,rfl,B1.v⟩
theorem NR(b:Nat)(z:Int)(t:T)(w:bD)(h:Tb bw w b t):
  Calls prog 153 #[ai (bj ⟨b,0,bu⟩),aa az z] w λe w'=>e=bf (bN (Sp.jg t z))/\Tb bw w' b (Sp.gP t z)/\bG b w w':=by
 by_cases k:Sp.cN t z=0
 .obtain⟨n,rfl,hn,hh⟩:=Sp.oF k;by_cases n0:n=0
  .subst n0;have e1:Sp.jg t ((0:Nat):Int)=5:=by unfold Sp.jg;rw[aJ k,aJ (.inl rfl)]
   have e3:Sp.gP t ((0:Nat):Int)=t:=by unfold Sp.gP;rw[e1];rfl
   refine(Kj b t w h k).mono ?_;rintro e w' ⟨rfl,rfl⟩;rw[e1,e3];exact⟨rfl,h,bG.refl _ _⟩
  .refine(Ki b n t w h n0 hn hh).mono ?_;rintro e w' (⟨hc,rfl,hb⟩|⟨hm,hk,rfl,ht,hf⟩)
   .have e1:Sp.jg t n=5:=by unfold Sp.jg;rw[aJ k,hZ,aJ (.inr hc)]
    have e3:Sp.gP t n=t:=by unfold Sp.gP;rw[e1];rfl
    rw[e1,e3];exact⟨rfl,h.below hb,bG.cL hb⟩
   .have e1:Sp.jg t n=0:=by
     unfold Sp.jg;rw[aJ k,hZ,aI];grind
    rw[e1];refine⟨rfl,?_,hf⟩;unfold Sp.gP;rw[e1,aJ rfl,hZ];refine ht.congr (gA (λa ha=>by rw[dh bw _ a ha,dh bw _ a ha]) (λa ha=>by rw[dz bw _ a ha,dz bw _ a ha]) (λa q ha hq=>?_) (λy hy=>by rw[ec,ec]));rw[dA bw _ a q ha hq,dA bw _ a q ha hq];by_cases c:a=n
    .subst c;simp[Sp.DX hm q hq]
    .simp[c]
 .have e1:Sp.jg t z=Sp.cN t z:=by unfold Sp.jg;rw[aI k]
  have e3:Sp.gP t z=t:=by unfold Sp.gP;rw[e1,aI k]
  refine(Iu b z t w h k).mono ?_;rintro e w' ⟨rfl,rfl⟩;rw[e1,e3];exact⟨rfl,h,bG.refl _ _⟩
namespace Sp
theorem ON{t t':T}(h:∀p,t'.b7 n p=t.b7 n p):low t' n=low t n:=by unfold low uR;grind
theorem Jj{t t':T}(h:∀p,t'.b7 n p=t.b7 n p):iV t' n x=iV t n x:=by unfold iV wS;grind
theorem Inv.pid{t:T}(h:Inv t d)(hn:n<6)(he:∃p,p<21/\t.b7 n p=x+1):iV t n x≠0/\iV t n x<21/\t.b7 n (iV t n x)=x+1:=by
 obtain⟨p,hp,e⟩:=he;unfold iV;cases hf:(List.range 21).find? (wS t n x)with
 |none=>
  have:=List.find?_eq_none.1 hf p (by simpa using hp);exact aZ (by unfold wS;simp[e]) this
 |some k=>
  have:=ma hf;have hk:t.b7 n k=x+1:=by have:=this.2.1;unfold wS at this;simpa using this
  refine⟨λc=>?_,this.1,hk⟩;have c':k=0:=c;rw[c',h.r9 n hn]at hk;omega
def nY(t:T)(L:List Nat)(n y:Nat):T:={Eb t L y with of:=tX t.of y (n+1)}
def mM(t:T)(L:List Nat)(y:Nat):T:={Af t L y with of:=tX t.of y 0}
end Sp
section
variable {w:bD}{b:Nat}{t:T}
theorem KD(h:Tb bw w b t)(hy:y<20):Tb bw (w.setCell ⟨b,138+y,bu⟩ (aa az (n:Int))) b (Sp.nY t [] n y):=by
 have:=h.setOf y (n+1) hy;rw[show co bw (n+1)=(n:Int)by unfold co;simp]at this;exact this.congr (gA (λm hm=>by rw[dh bw _ m hm,dh bw _ m hm];rfl) (λm hm=>by rw[dz bw _ m hm,dz bw _ m hm];rfl) (λm q hm hq=>by rw[dA bw _ m q hm hq,dA bw _ m q hm hq];simp[Sp.nY,Sp.Eb]) (λz hz=>by rw[ec,ec];rfl))
theorem TS(h:Tb bw w b (Sp.nY t L n y))(hm:m<6)(hh:t.here m=bw)(hp:Sp.low t m<21):Tb bw (w.setCell ⟨b,m*23+2+Sp.low t m,bu⟩ (aa az (y:Int))) b (Sp.nY t (L++[m]) n y):=by
 have:=h.Md m (Sp.low t m) (y+1) hm hp;rw[show cw bw ((Sp.nY t L n y).here m) (y+1)=(y:Int)by rw[show(Sp.nY t L n y).here m=t.here m from rfl,hh];unfold cw;simp]at this;refine this.congr (gA (λa ha=>by rw[dh bw _ a ha,dh bw _ a ha];rfl) (λa ha=>by rw[dz bw _ a ha,dz bw _ a ha];rfl) (λa q ha hq=>?_) (λz hz=>by rw[ec,ec];rfl));rw[dA bw _ a q ha hq,dA bw _ a q ha hq];have e:(Sp.nY t (L++[m]) n y).b7 a q=(MC (Sp.nY t L n y) m (Sp.low t m) (y+1)).b7 a q:=by
  show(if a∈L++[m]/\q=Sp.low t a then y+1 else t.b7 a q)=if a=m/\q=Sp.low t m then y+1 else(if a∈L/\q=Sp.low t a then y+1 else t.b7 a q);grind
 rw[e];rfl
theorem Jg(h:Tb bw w b t)(hy:y<20):Tb bw (w.setCell ⟨b,138+y,bu⟩ (aa az (-1))) b (Sp.mM t [] y):=by
 have:=h.setOf y 0 hy;exact this.congr (gA (λm hm=>by rw[dh bw _ m hm,dh bw _ m hm];rfl) (λm hm=>by rw[dz bw _ m hm,dz bw _ m hm];rfl) (λm q hm hq=>by rw[dA bw _ m q hm hq,dA bw _ m q hm hq];simp[Sp.mM,Sp.Af]) (λz hz=>by rw[ec,ec];rfl))
theorem R5{p:Nat}(h:Tb bw w b (Sp.mM t L y))(hm:m<6)(hh:t.here m=bw)(hp:p<21)(e1:t.b7 m p=y+1)(e2:∀q,q<21->t.b7 m q=y+1->q=p):Tb bw (w.setCell ⟨b,m*23+2+p,bu⟩ (aa az (-1))) b (Sp.mM t (L++[m]) y):=by
 have:=h.Md m p 0 hm hp;rw[show cw bw ((Sp.mM t L y).here m) 0= -1 by rw[show(Sp.mM t L y).here m=t.here m from rfl,hh];rfl]at this;refine this.congr (gA (λa ha=>by rw[dh bw _ a ha,dh bw _ a ha];rfl) (λa ha=>by rw[dz bw _ a ha,dz bw _ a ha];rfl) (λa q ha hq=>?_) (λz hz=>by rw[ec,ec];rfl));rw[dA bw _ a q ha hq,dA bw _ a q ha hq];have e:(Sp.mM t (L++[m]) y).b7 a q=(MC (Sp.mM t L y) m p 0).b7 a q:=by
  show(if a∈L++[m]/\t.b7 a q=y+1 then 0 else t.b7 a q)=if a=m/\q=p then 0 else(if a∈L/\t.b7 a q=y+1 then 0 else t.b7 a q);grind
 rw[e];rfl
end
theorem wO(b:Nat)(z x:Int)(t:T)(w:bD)(h:Tb bw w b t)(k:Sp.jk t z x≠0):
  Calls prog 142 #[ai (bj ⟨b,0,bu⟩),aa az z,aa az x] w λe w'=>e=bf (ao #[aa az 0,bN (Sp.jk t z x)])/\w'=w:=by
 have HF:=hJ h;have HW:=hJ k;go_in
 go_wp2_with fail
 refine sC (kW b z x t _ HF.v) ?_;rintro w1 hw;subst w1;rw[bH HW.v];go_wp2
 go_ret2
 rw[bH HW.v];exact⟨rfl,rfl⟩
theorem wN(b n y:Nat)(t:T)(w:bD)(h:Tb bw w b t)(k:Sp.jk t n y=0)(hy:y<20)(ho:t.of y≠0):
  Calls prog 142 #[ai (bj ⟨b,0,bu⟩),aa az n,aa az y] w λe w'=>e=bf (ao #[aa az 0,bN 3])/\w'=w:=by
 have HF:=hJ h;have HK:=hJ k;have c:=h.Qg y hy;have hyI:(y:Int)<20:=bB
 obtain⟨v,hv⟩:=hU ((t.of y:Int)-1);have v0:(v== -1)=bA:=by simp;omega
 rw[hv]at c;go_in
 go_wp2_with fail
 refine sC (kW b n y t _ HF.v) ?_;rintro w1 hw;subst w1;rw[HK.v,bF];go_wp2
 go_ret2
 exact⟨rfl,rfl⟩
theorem NV(b n y:Nat)(t:T)(d:Nat->Nat)(w:bD)(h:Tb bw w b t)(hI:Sp.Inv t d)(k:Sp.jk t n y=0)(hn:n<6)(hh:t.here n=bw)(hy:y<20)(ho:t.of y=0):
  Calls prog 142 #[ai (bj ⟨b,0,bu⟩),aa az n,aa az y] w λe w'=>e=bf (ao #[aa az (uY (Sp.nY t (Sp.W t n) n y) n y),bN 0])/\Tb bw w' b (Sp.nY t (Sp.W t n) n y)/\bG b w w':=by
 have HF:=hJ h;have HI:=hJ hI;have HK:=hJ k;have HH:=hJ (aK hh ho);have c:=h.Qg y hy;rw[ho]at c;have c':w.cell? ⟨b,138+y,bu⟩=bj (aa az (-1)):=c;have cf:=h.frozen;have hyI:(y:Int)<20:=bB
 have hnI:(n:Int)<6:=bB
 have S0:Hid (Tb bw (w.setCell ⟨b,138+y,bu⟩ (aa az (n:Int))) b (Sp.nY t [] n y)/\bG b w (w.setCell ⟨b,138+y,bu⟩ (aa az (n:Int)))):=hJ ⟨KD h hy,(bG.refl b w).setCell _ _⟩;go_in
 go_wp2_with fail
 refine sC (kW b n y t _ HF.v) ?_;rintro w1 hw;subst w1;rw[HK.v,bF];go_wp2_with fail
 refine cJ (λW=>Tb bw W b (Sp.nY t [] n y)/\bG b w W) S0.v ?_;rintro W1 ⟨h1,f1⟩;have S1:=hJ (aK h1 f1);go_loopw [9] (λi wr=>∃(z:Int) (L:List Nat),i=aa az z/\Hid (Tb bw wr b (Sp.nY t L n y)/\bG b w wr/\L++Sp.W t z=Sp.W t n/\(z= -1\/∃m:Nat,z=m/\m<6/\t.here m=bw))) (λi _=>(Sp.W t (intOf i)).length)
 case atStart=>exact⟨n,[],rfl,S1.1,S1.2,rfl, .inr ⟨n,rfl,hn,HH.1⟩⟩
 case round=>
  obtain⟨z,L,rfl,S⟩:=hrel;rcases S.2.2.2 with rfl|⟨m,rfl,hm,hmh⟩
  .have HE:Hid (L=Sp.W t n):=hJ (by have:=S.2.2.1;rw[Sp.p7 t (-1) bB,List.append_nil]at this;exact this);have S2:Hid (Tb bw wr b (Sp.nY t (Sp.W t n) n y)/\bG b w wr):=hJ (by rw[<-HE.v];exact⟨S.1,S.2.1⟩);have h0:Hid ((Sp.nY t (Sp.W t n) n y).b7 n 0=0):=hJ (by
    show(if n∈Sp.W t n/\0=Sp.low t n then y+1 else t.b7 n 0)=0;have:=(HI.low hy HH.2 hn).1;rw[aI (λc=>bB)];exact HI.r9 n hn)
   go_wp2_with fail
   refine sC (AB b n y _ _ S2.1 hn HH.1 h0.v) ?_;rintro w1 hw;subst w1;go_wp2
   go_ret2
   exact⟨rfl,S2.v⟩
  .have HMH:=hJ hmh;have ST:=hJ (HI.tree.step hm hmh);have PC:=hJ (HI.tree.iq hm hmh);have LW:=hJ (HI.low hy HH.2 hm);have hmI:(m:Int)<6:=bB
   have hne:=v7 m;have NM:Hid (m∉L):=hJ (λc=>by
    have nd:=HI.tree.nodup hn HH.1;rw[<-S.2.2.1,ST.v]at nd;exact(List.nodup_append.1 nd).2.2 m c m (by simp) rfl)
   have SW:Hid (∀p,(Sp.nY t L n y).b7 m p=t.b7 m p):=hJ (λp=>by
    show(if m∈L/\p=Sp.low t m then y+1 else t.b7 m p)=t.b7 m p;rw[aI (λc=>NM.v c.1)])
   go_wp2_with fail
   obtain⟨l,hl⟩:=hU (Sp.low t m);have HL:=hJ hl;have hl21:(l:Int)<21:=by have:=LW.2.1;omega
   go_region_held3 (λ_=>True) (trivial) ((go_at_call 221;refine sC (Od b m _ _ S.1.drew hm HMH.v ⟨Sp.low t m,LW.1,LW.2.1,by rw[SW.v];exact LW.2.2.1⟩) ?_;rintro w2 hw2;rw[Sp.ON SW.v,HL.v];subst hw2;have q1:=S.1.drew.Im m l hm (by have:=LW.2.1;rw[HL.v]at this;exact this);have qf:=S.1.drew.frozen))
   generalize hW2:World.drew _=W2;have S2:Hid (Tb bw W2 b (Sp.nY t (L++[m]) n y)/\bG b w W2):=hJ (by
    rw[<-hW2,<-HL.v];exact⟨(TS S.1 hm HMH.v LW.2.1).drew,(S.2.1.setCell _ _).drew⟩)
   have c1:W2.cell? ⟨b,m*23+1,bu⟩=bj (aa az (t.par m)):=S2.1.uz m hm;go_wp2
   go_roundw
   case rel=>
    refine⟨t.par m,L++[m],by first|rfl|trivial,S2.1,S2.2,?_,?_⟩
    .have:=S.2.2.1;rw[ST.v]at this;rw[<-this];simp
    .rcases PC.v with⟨_,e,_⟩|⟨p,p1,p2,p3,_⟩
     .exact .inl e
     .exact .inr ⟨p,p2,p1,p3⟩
   case measure=>
    simp only[intOf];rw[ST.v,List.length_cons];omega
theorem Ko(b:Nat)(z x:Int)(t:T)(d:Nat->Nat)(w:bD)(h:Tb bw w b t)(hI:Sp.Inv t d):
  Calls prog 142 #[ai (bj ⟨b,0,bu⟩),aa az z,aa az x] w λe w'=>e=bf (ao #[aa az (Sp.uG t z x:Int),bN (Sp.mJ t z x)])/\Tb bw w' b (Sp.fM t z x)/\bG b w w':=by
 by_cases k:Sp.jk t z x=0
 .obtain⟨n,y,rfl,rfl,hn,hy,hh⟩:=Sp.tC k;by_cases ho:t.of y=0
  .have e1:Sp.mJ t n y=0:=by unfold Sp.mJ;rw[aJ k,hZ,aJ ho]
   have e3:Sp.fM t n y=Sp.nY t (Sp.W t n) n y:=by unfold Sp.fM;rw[e1,aJ rfl,hZ,hZ];rfl
   have e2:Sp.uG t n y=Sp.iV (Sp.nY t (Sp.W t n) n y) n y:=by unfold Sp.uG;rw[e1,aJ rfl,e3,hZ,hZ]
   have i2:=hI.enter n y;rw[e3]at i2;have hp:=i2.pid (n:=n) (x:=y) hn ⟨Sp.low t n,(hI.low hy ho hn).2.1,by
    show(if n∈Sp.W t n/\Sp.low t n=Sp.low t n then y+1 else t.b7 n (Sp.low t n))=y+1;rw[aJ ⟨by rw[hI.tree.step hn hh];simp,rfl⟩]⟩
   grind [NV,uY,wN,bG.refl,wO]
  .have e1:Sp.mJ t n y=3:=by unfold Sp.mJ;rw[aJ k,hZ,aI ho]
   have e3:Sp.fM t n y=t:=by unfold Sp.fM;rw[e1];rfl
   have e2:Sp.uG t n y=0:=by unfold Sp.uG;rw[e1];rfl
   refine(wN b n y t w h k hy ho).mono ?_;rintro e w' ⟨rfl,rfl⟩;rw[e1,e2,e3];exact⟨rfl,h,bG.refl _ _⟩
 .have e1:Sp.mJ t z x=Sp.jk t z x:=by unfold Sp.mJ;rw[aI k]
  have e3:Sp.fM t z x=t:=by unfold Sp.fM;rw[e1,aI k]
  have e2:Sp.uG t z x=0:=by unfold Sp.uG;rw[e1,aI k]
  refine(wO b z x t w h k).mono ?_;rintro e w' ⟨rfl,rfl⟩;rw[e1,e2,e3];exact⟨rfl,h,bG.refl _ _⟩
theorem FU(b:Nat)(x:Int)(t:T)(w:bD)(h:Tb bw w b t)(k:Sp.mE t x≠0):
  Calls prog 152 #[ai (bj ⟨b,0,bu⟩),aa az x] w λe w'=>e=bf (bN (Sp.mE t x))/\w'=w:=by
 have HF:=hJ h;have HW:=hJ k;go_in
 go_wp2_with fail
 refine sC (D7 b x t _ HF.v) ?_;rintro w1 hw;subst w1;rw[bH HW.v];go_wp2
 go_ret
 rw[bH HW.v];exact⟨rfl,rfl⟩
theorem OC(b n y:Nat)(t:T)(d:Nat->Nat)(w:bD)(h:Tb bw w b t)(hI:Sp.Inv t d)(k:Sp.mE t y=0)(hk:Sp.dX t y=n)(hn:n<6)(hh:t.here n=bw)(hy:y<20)(ho:t.of y=n+1):
  Calls prog 152 #[ai (bj ⟨b,0,bu⟩),aa az y] w λe w'=>e=bf (bN 0)/\Tb bw w' b (Sp.mM t (Sp.W t n) y)/\bG b w w':=by
 have HF:=hJ h;have HI:=hJ hI;have HK:=hJ (aK k hk);have HH:=hJ (aK hh ho);have c:=h.Qg y hy;have cf:=h.frozen;have hyI:(y:Int)<20:=bB
 have hnI:(n:Int)<6:=bB
 have S0:Hid (Tb bw (w.setCell ⟨b,138+y,bu⟩ (aa az (-1))) b (Sp.mM t [] y)/\bG b w (w.setCell ⟨b,138+y,bu⟩ (aa az (-1)))):=hJ ⟨Jg h hy,(bG.refl b w).setCell _ _⟩;go_in
 go_wp2_with fail
 refine sC (D7 b y t _ HF.v) ?_;rintro w1 hw;subst w1;rw[HK.1,HK.2,bF];go_wp2_with fail
 refine cJ (λW=>Tb bw W b (Sp.mM t [] y)/\bG b w W) S0.v ?_;rintro W1 ⟨h1,f1⟩;have S1:=hJ (aK h1 f1);go_loopw [7] (λi wr=>∃(z:Int) (L:List Nat),i=aa az z/\Hid (Tb bw wr b (Sp.mM t L y)/\bG b w wr/\L++Sp.W t z=Sp.W t n/\(z= -1\/∃m:Nat,z=m/\m<6/\t.here m=bw))) (λi _=>(Sp.W t (intOf i)).length)
 case atStart=>exact⟨n,[],rfl,S1.1,S1.2,rfl, .inr ⟨n,rfl,hn,HH.1⟩⟩
 case round=>
  obtain⟨z,L,rfl,S⟩:=hrel;rcases S.2.2.2 with rfl|⟨m,rfl,hm,hmh⟩
  .have HE:Hid (L=Sp.W t n):=hJ (by have:=S.2.2.1;rw[Sp.p7 t (-1) bB,List.append_nil]at this;exact this);have S2:Hid (Tb bw wr b (Sp.mM t (Sp.W t n) y)/\bG b w wr):=hJ (by rw[<-HE.v];exact⟨S.1,S.2.1⟩);go_wp2
   go_ret
   exact⟨rfl,S2.v⟩
  .have HMH:=hJ hmh;have ST:=hJ (HI.tree.step hm hmh);have PC:=hJ (HI.tree.iq hm hmh);have MW:Hid (m∈Sp.W t n):=hJ (by rw[<-S.2.2.1,ST.v];simp);have LW:=hJ (HI.pid (x:=y) hm ((HI.has m y hm hy).2 ⟨by rw[HH.2];omega,by rw[HH.2,aP];exact MW.v⟩));have hmI:(m:Int)<6:=bB
   have hne:=v7 m;have NM:Hid (m∉L):=hJ (λc=>by
    have nd:=HI.tree.nodup hn HH.1;rw[<-S.2.2.1,ST.v]at nd;exact(List.nodup_append.1 nd).2.2 m c m (by simp) rfl)
   have SW:Hid (∀p,(Sp.mM t L y).b7 m p=t.b7 m p):=hJ (λp=>by
    show(if m∈L/\t.b7 m p=y+1 then 0 else t.b7 m p)=t.b7 m p;rw[aI (λc=>NM.v c.1)])
   go_wp2_with fail
   obtain⟨l,hl⟩:=hU (Sp.iV t m y);have HL:=hJ hl;have hl21:(l:Int)<21:=by have:=LW.2.1;omega
   go_region_held3 (λ_=>True) (trivial) ((go_at_call 222;refine sC (AB b m y _ _ S.1.drew hm HMH.v (by rw[SW.v];exact HI.r9 m hm)) ?_;rintro w2 hw2;have hpi:uY (Sp.mM t L y) m y=(l:Int):=(by unfold uY;rw[Sp.Jj SW.v,HL.v,aI (by have:=LW.1;rw[HL.v]at this;exact this)]);rw[hpi];subst hw2;have q1:=S.1.drew.Im m l hm (by have:=LW.2.1;rw[HL.v]at this;exact this);have qf:=S.1.drew.frozen))
   generalize hW2:World.drew _=W2;have S2:Hid (Tb bw W2 b (Sp.mM t (L++[m]) y)/\bG b w W2):=hJ (by
    have lw:=LW.v;rw[HL.v]at lw;rw[<-hW2];exact⟨(R5 S.1 hm HMH.v lw.2.1 lw.2.2 (λq hq e=>HI.one m q l hm hq lw.2.1 (by rw[e,lw.2.2]) (by rw[e];omega))).drew,(S.2.1.setCell _ _).drew⟩)
   have c1:W2.cell? ⟨b,m*23+1,bu⟩=bj (aa az (t.par m)):=S2.1.uz m hm;go_wp2
   go_roundw
   case rel=>
    refine⟨t.par m,L++[m],by first|rfl|trivial,S2.1,S2.2,?_,?_⟩
    .have:=S.2.2.1;rw[ST.v]at this;rw[<-this];simp
    .rcases PC.v with⟨_,e,_⟩|⟨p,p1,p2,p3,_⟩
     .exact .inl e
     .exact .inr ⟨p,p2,p1,p3⟩
   case measure=>
    simp only[intOf];rw[ST.v,List.length_cons];omega
theorem Lp(b:Nat)(x:Int)(t:T)(d:Nat->Nat)(w:bD)(h:Tb bw w b t)(hI:Sp.Inv t d):
  Calls prog 152 #[ai (bj ⟨b,0,bu⟩),aa az x] w λe w'=>e=bf (bN (Sp.mE t x))/\Tb bw w' b (Sp.dQ t x)/\bG b w w':=by
 by_cases k:Sp.mE t x=0
 .obtain⟨y,rfl,hy,ho⟩:=Sp.Ds k;have o:=hI.pF y hy ho;have e2:Sp.dX t y=t.of y-1:=by unfold Sp.dX;rw[aJ k,hZ]
  refine(OC b (t.of y-1) y t d w h hI k e2 bB o.2 hy bB).mono ?_;rintro e w' ⟨rfl,h1,h2⟩;rw[k];refine⟨rfl,?_,h2⟩;unfold Sp.dQ;rw[k,aJ rfl,hZ];refine h1.congr (gA (λa ha=>by rw[dh bw _ a ha,dh bw _ a ha];rfl) (λa ha=>by rw[dz bw _ a ha,dz bw _ a ha];rfl) (λa q ha hq=>?_) (λz hz=>by rw[ec,ec];rfl));rw[dA bw _ a q ha hq,dA bw _ a q ha hq];have e:(if a∈List.range 6/\t.b7 a q=y+1 then 0 else t.b7 a q)=(if a∈Sp.W t ((t.of y-1:Nat):Int)/\t.b7 a q=y+1 then 0 else t.b7 a q):=by
   by_cases c:t.b7 a q=y+1
   .rw[aJ ⟨by simpa using ha,c⟩,aJ ⟨((hI.has a y ha hy).1 ⟨q,hq,c⟩).2,c⟩]
   grind
  show aa az (cw bw (t.here a) (if a∈List.range 6/\t.b7 a q=y+1 then 0 else t.b7 a q))=aa az (cw bw (t.here a) (if a∈Sp.W t ((t.of y-1:Nat):Int)/\t.b7 a q=y+1 then 0 else t.b7 a q));rw[e]
 .have e3:Sp.dQ t x=t:=by unfold Sp.dQ;rw[aI k]
  refine(FU b x t w h k).mono ?_;rintro e w' ⟨rfl,rfl⟩;rw[e3];exact⟨rfl,h,bG.refl _ _⟩
