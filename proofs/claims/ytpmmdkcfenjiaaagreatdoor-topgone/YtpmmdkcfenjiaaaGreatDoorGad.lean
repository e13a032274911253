import Derived.Test.YtpmmdkcfenjiaaaGreatDoorGab
set_option maxRecDepth 100000
set_option maxHeartbeats 1000000
set_option linter.unusedVariables false
set_option linter.unusedSimpArgs false
namespace Go.Proofs.YtpmmdkcfenjiaaaGreatDoor
open Value renaming int->aa,pointer->ai,slice->aj,tuple->ao,bool->ar,agg->au
open IntKind renaming i64->az
open Ending renaming returned->bf
open Obj renaming cells->bh
open Option renaming some->bj,none->bu
open Bool renaming true->bw,false->bA
open Tryz (prog)
variable {p z:Int}{L:List Nat}{b b2 b3 i k m n x y:Nat}{P:Nat->Bool}{d:Nat->Nat}{w:bD}
namespace Sp
structure T where
 here:Nat->Bool
 par:Nat->Int
 cr:Nat->Nat->Nat
 of:Nat->Nat
def vL(t:T):Nat->Int->List Nat
 |0,_=>[]
 |k+1,z=>if z<0 then[]else z.toNat::vL t k (t.par z.toNat)
def W(t:T)(z:Int):List Nat:=vL t 6 z
structure Tree (t:T)(d:Nat->Nat):Prop where
 root:t.here 0=bw/\t.par 0= -1/\d 0=1
 up:∀n,0<n->n<6->t.here n=bw->∃p:Nat,p<6/\t.par n=(p:Int)/\t.here p=bw/\d n=d p+1
 le:∀n,n<6->t.here n=bw->1<=d n/\d n<=4
section
variable {t:T}{d:Nat->Nat}
theorem oZ(t:T)(k:Nat)(z:Int)(h:z<0):vL t k z=[]:=by cases k<;>simp[vL,h]
theorem sZ(t:T)(k n:Nat):vL t (k+1) (n:Int)=n::vL t k (t.par n):=by
 simp only[vL];rw[nK,hU]
theorem Tree.im(h:Tree t d)(hn:n<6)(hh:t.here n=bw):(n=0/\t.par n= -1/\d n=1)\/∃p:Nat,p<6/\t.par n=(p:Int)/\t.here p=bw/\d n=d p+1:=by
 by_cases e:n=0
 .subst e;exact .inl ⟨rfl,h.root.2⟩
 .exact .inr (h.up n bB hn hh)
theorem Tree.MO(h:Tree t d):∀(k n:Nat),n<6->t.here n=bw->d n<=k->vL t (k+1) (n:Int)=vL t k (n:Int)
 |0,n,hn,hh,hk=>aZ (h.le n hn hh).1 bB
 |k+1,n,hn,hh,hk=>by
  rw[sZ,sZ];rcases h.im hn hh with⟨_,e,_⟩|⟨p,h1,e,h2,h3⟩
  .rw[e,oZ _ _ _ bB,oZ _ _ _ bB]
  .rw[e,h.MO k p h1 h2 bB]
theorem Tree.step(h:Tree t d)(hn:n<6)(hh:t.here n=bw):W t (n:Int)=n::W t (t.par n):=by
 unfold W;rw[sZ];rcases h.im hn hh with⟨_,e,_⟩|⟨p,h1,e,h2,h3⟩
 .rw[e,oZ _ _ _ bB,oZ _ _ _ bB]
 .rw[e,h.MO 5 p h1 h2 (by have:=(h.le n hn hh).2;omega)]
theorem qh(t:T)(z:Int)(h:z<0):W t z=[]:=oZ t 6 z h
theorem Tree.ind(h:Tree t d){P:Nat->Prop}(hP:∀n,n<6->t.here n=bw->(∀p:Nat,p<6->t.here p=bw->t.par n=(p:Int)->d n=d p+1->P p)->P n):∀n,n<6->t.here n=bw->P n:=by
 have:∀k n,d n<=k->n<6->t.here n=bw->P n:=by
  intro k
  induction k with
  |zero=>intro n h1 h2 h3;have:=(h.le n h2 h3).1;omega
  |succ k ih=>intro n h1 h2 h3;exact hP n h2 h3 (λp p1 p2 _ p4=>ih p bB p1 p2)
 exact λn=>this (d n) n (aL _)
theorem Tree.len(h:Tree t d)(hn:n<6)(hh:t.here n=bw):(W t (n:Int)).length=d n:=by
 refine h.ind (P:=λn=>(W t (n:Int)).length=d n) (λn hn hh ih=>?_) n hn hh;show(W t (n:Int)).length=d n;rw[h.step hn hh];rcases h.im hn hh with⟨_,e,e2⟩|⟨p,h1,e,h2,h3⟩
 .rw[e,qh _ _ bB,e2];rfl
 .rw[e,List.length_cons,ih p h1 h2 e h3,h3]
theorem Tree.mem(h:Tree t d)(hn:n<6)(hh:t.here n=bw):∀x,x∈W t (n:Int)->x<6/\t.here x=bw/\d x<=d n:=by
 refine h.ind (P:=λn=>∀x,x∈W t (n:Int)->x<6/\t.here x=bw/\d x<=d n) (λn hn hh ih=>?_) n hn hh;intro x hx;rw[h.step hn hh]at hx;rcases List.mem_cons.1 hx with e|hx
 .subst e;exact⟨hn,hh,aL _⟩
 .rcases h.im hn hh with⟨_,e,e2⟩|⟨p,h1,e,h2,h3⟩
  .rw[e,qh _ _ bB]at hx;cases hx
  .rw[e]at hx;have:=ih p h1 h2 e h3 x hx;exact⟨this.1,this.2.1,bB⟩
theorem Tree.nodup(h:Tree t d)(hn:n<6)(hh:t.here n=bw):(W t (n:Int)).Nodup:=by
 refine h.ind (P:=λn=>(W t (n:Int)).Nodup) (λn hn hh ih=>?_) n hn hh;show(W t (n:Int)).Nodup;rw[h.step hn hh];rcases h.im hn hh with⟨_,e,e2⟩|⟨p,h1,e,h2,h3⟩
 .rw[e,qh _ _ bB];simp
 .rw[e,List.nodup_cons];exact⟨λhm=>by have:=(h.mem h1 h2 n hm).2.2;omega,ih p h1 h2 e h3⟩
theorem yB{t t':T}(h:Tree t d)(hp:∀n,n<6->t.here n=bw->t'.par n=t.par n)(hn:n<6)(hh:t.here n=bw):W t' (n:Int)=W t (n:Int):=by
 have:∀k n,n<6->t.here n=bw->vL t' k (n:Int)=vL t k (n:Int):=by
  intro k
  induction k with
  |zero=>intro n _ _;rfl
  |succ k ih=>
   intro n hn hh;rw[sZ,sZ,hp n hn hh];rcases h.im hn hh with⟨_,e,_⟩|⟨p,h1,e,h2,h3⟩
   .rw[e,oZ _ _ _ bB,oZ _ _ _ bB]
   .rw[e,ih p h1 h2]
 exact this 6 n hn hh
end
structure Inv (t:T)(d:Nat->Nat):Prop where
 tree:Tree t d
 no:∀n,n<6->t.here n=bA->t.par n=0
 sA:∀n,n<6->t.cr n 0=0
 qb:∀n p,n<6->p<21->t.cr n p<=20
 one:∀n p q,n<6->p<21->q<21->t.cr n p=t.cr n q->t.cr n p≠0->p=q
 has:∀n x,n<6->x<20->((∃p,p<21/\t.cr n p=x+1)↔(t.of x≠0/\n∈W t ((t.of x-1:Nat):Int)))
 pM:∀x,x<20->t.of x≠0->t.of x<=6/\t.here (t.of x-1)=bw
def cL(t:T)(z:Int):Int:=if z<0\/6<=z then 1 else if t.here z.toNat=bw then 0 else 2
def lM(z:Int):Int:=if z<0\/20<=z then 1 else 0
def fK(t:T):Nat:=((List.range 6).find? (λn=> !t.here n)).getD 6
def je(t:T)(z:Int):Int:=if cL t z=0 then(if 4<=(W t z).length then 7 else if fK t=6 then 4 else 0)else cL t z
def nW(t:T)(z:Int):Nat:=if je t z=0 then fK t else 0
def uA(f:Nat->Nat)(i v:Nat):Nat->Nat:=λj=>if j=i then v else f j
def gE(f:Nat->Int)(i:Nat)(v:Int):Nat->Int:=λj=>if j=i then v else f j
def nT(f:Nat->Bool)(i:Nat)(v:Bool):Nat->Bool:=λj=>if j=i then v else f j
def fZ(t:T)(z:Int):T:=if je t z=0 then{t with here:=nT t.here (fK t) bw,par:=gE t.par (fK t) z}else t
def jH(t:T)(n p:Nat):Bool:=decide (t.cr n p≠0)
def fE(t:T)(n:Nat):List Nat:=((List.range 21).filter (jH t n)).map (λp=>t.cr n p-1)
def uS(t:T)(n k:Nat):Bool:=t.here k&&decide (t.par k=(n:Int))
def kids(t:T)(n:Nat):Bool:=(List.range 6).any (uS t n)
def jo(t:T)(z:Int):Int:=if cL t z=0 then(if z=0\/fE t z.toNat≠[]\/kids t z.toNat=bw then 5 else 0)else cL t z
def gx(t:T)(z:Int):T:=if jo t z=0 then{t with here:=nT t.here z.toNat bA,par:=gE t.par z.toNat 0}else t
def u6(t:T)(n p:Nat):Bool:=decide (1<=p)&&decide (t.cr n p=0)
def low(t:T)(n:Nat):Nat:=((List.range 21).find? (u6 t n)).getD 0
def jr(t:T)(z x:Int):Int:=if cL t z=0 then lM x else cL t z
def mP(t:T)(z x:Int):Int:=if jr t z x=0 then(if t.of x.toNat=0 then 0 else 3)else jr t z x
def Ee(t:T)(L:List Nat)(x:Nat):T:={t with cr:=λn p=>if n∈L/\p=low t n then x+1 else t.cr n p}
def fM(t:T)(z x:Int):T:=if mP t z x=0 then{Ee t (W t z) x.toNat with of:=uA t.of x.toNat (z.toNat+1)}else t
def wU(t:T)(n x p:Nat):Bool:=decide (t.cr n p=x+1)
def jb(t:T)(n x:Nat):Nat:=((List.range 21).find? (wU t n x)).getD 0
def uP(t:T)(z x:Int):Nat:=if mP t z x=0 then jb (fM t z x) z.toNat x.toNat else 0
def mL(t:T)(x:Int):Int:=if lM x=0 then(if t.of x.toNat=0 then 2 else 0)else lM x
def dQ(t:T)(x:Int):Nat:=if mL t x=0 then t.of x.toNat-1 else 0
def Ag(t:T)(L:List Nat)(x:Nat):T:={t with cr:=λn p=>if n∈L/\t.cr n p=x+1 then 0 else t.cr n p}
def dG(t:T)(x:Int):T:=if mL t x=0 then{Ag t (List.range 6) x.toNat with of:=uA t.of x.toNat 0}else t
def Az(t:T)(x z:Int):Int:=if jr t z x=0 then(if jb t z.toNat x.toNat=0 then 2 else 0)else jr t z x
def pX(t:T)(x z:Int):Nat:=if Az t x z=0 then jb t z.toNat x.toNat else 0
def ix(t:T)(z p:Int):Int:=if cL t z=0 then(if p<1\/20<p\/t.cr z.toNat p.toNat=0 then 2 else 0)else cL t z
def e9(t:T)(z p:Int):Nat:=if ix t z p=0 then t.cr z.toNat p.toNat-1 else 0
def all(t:T):List Nat:=(List.range 6).filter t.here
def t0:T:=⟨λn=>decide (n=0),λn=>if n=0 then -1 else 0,λ_ _=>0,λ_=>0⟩
theorem mu(h:(List.range n).find? P=bj i):i<n/\P i=bw/\∀j,j<i->P j=bA:=by
 obtain⟨h1,L,M,h2,h3⟩:=List.find?_eq_some_iff_append.1 h;have hi:i<n:=by have:=List.mem_of_find?_eq_some h;simpa using this
 refine⟨hi,h1,λj hj=>?_⟩;have hl:L.length=i:=by
  have e1:(List.range n)[L.length]? =bj i:=by rw[h2];simp
  rw[List.getElem?_range (by have:=congrArg List.length h2;simp at this;omega)]at e1;exact Option.some.inj e1
 have hm:j∈L:=by
  have e:(List.range n)[j]? =L[j]? :=by rw[h2,List.getElem?_append_left bB]
  rw[List.getElem?_range bB]at e;exact bK e.symm
 have:=h3 j hm;simpa using this
theorem Ak(hi:i<n)(h:P i=bw)(hl:∀j,j<i->P j=bA):(List.range n).find? P=bj i:=by
 cases hf:(List.range n).find? P with
 |none=>
  have:=List.find?_eq_none.1 hf i (by simpa using hi);exact aZ h this
 |some k=>
  have:=mu hf;congr 1;by_cases e1:k<i
  .have:=hl k e1;rw[(mu hf).2.1]at this;cases this
  .by_cases e2:i<k
   .have:=(mu hf).2.2 i e2;rw[h]at this;cases this
   .omega
theorem GI(h:∀j,j<n->P j=bA):(List.range n).find? P=none:=by
 rw[List.find?_eq_none];intro j hj;rw[h j (by simpa using hj)];simp
theorem oO{t:T}(h:cL t z=0):∃n:Nat,z=n/\n<6/\t.here n=bw:=by
 unfold cL at h;by_cases k:z<0\/6<=z
 .rw[aJ k]at h;omega
 .obtain⟨n,rfl⟩:=aG (show 0<=z by omega);rw[aI k,hU]at h;refine⟨n,rfl,bB,?_⟩;by_cases c:t.here n=bw
  .exact c
  .rw[aI c]at h;omega
theorem jT{t:T}(hn:n<6)(hh:t.here n=bw):cL t n=0:=by
 unfold cL;rw[nK,hU,aJ hh]
theorem ze(h:lM z=0):∃n:Nat,z=n/\n<20:=by
 unfold lM at h;by_cases k:z<0\/20<=z
 .rw[aJ k]at h;omega
 .exact⟨z.toNat,bB,bB⟩
theorem vp(hn:n<20):lM n=0:=by unfold lM;rw[nK]
theorem tR{t:T}{x:Int}(h:jr t z x=0):∃n k:Nat,z=n/\x=k/\n<6/\k<20/\t.here n=bw:=by
 unfold jr at h;by_cases k:cL t z=0
 .rw[aJ k]at h;obtain⟨n,rfl,h1,h2⟩:=oO k;obtain⟨m,rfl,h3⟩:=ze h;exact⟨n,m,rfl,rfl,h1,h3,h2⟩
 .rw[aI k]at h;exact aZ h k
theorem Oc{t:T}(h:fK t≠6):fK t<6/\t.here (fK t)=bA/\∀j,j<fK t->t.here j=bw:=by
 unfold fK at*;cases hf:(List.range 6).find? (λn=> !t.here n)with
 |none=>rw[hf]at h;exact aZ rfl h
 |some k=>
  have:=mu hf;refine⟨this.1,?_,λj hj=>?_⟩
  .have:=this.2.1;simpa using this
  .have:=this.2.2 j hj;simpa using this
theorem Ob{t:T}(hn:n<6)(h:t.here n=bA)(hl:∀j,j<n->t.here j=bw):fK t=n:=by
 unfold fK;rw[Ak (P:=λn=> !t.here n) hn (by simp[h]) (λj hj=>by simp[hl j hj])];rfl
theorem Od{t:T}(hl:∀j,j<6->t.here j=bw):fK t=6:=by
 unfold fK;rw[GI (P:=λn=> !t.here n) (λj hj=>by simp[hl j hj])];rfl
theorem pD{t:T}(h:je t z=0):∃n:Nat,z=n/\n<6/\t.here n=bw/\(W t z).length<4/\fK t<6/\t.here (fK t)=bA/\∀j,j<fK t->t.here j=bw:=by
 unfold je at h;by_cases k:cL t z=0
 .rw[aJ k]at h;obtain⟨n,rfl,h1,h2⟩:=oO k;by_cases c:4<=(W t n).length
  .rw[aJ c]at h;omega
  .rw[aI c]at h;by_cases f:fK t=6
   .rw[aJ f]at h;omega
   .exact⟨n,rfl,h1,h2,bB,Oc f⟩
 .rw[aI k]at h;exact aZ h k
theorem zv:Tree t0 (λ_=>1):=by
 refine⟨⟨rfl,rfl,rfl⟩,λn h0 _ hh=>?_,λn _ _=>⟨by omega,bB⟩⟩;simp[t0]at hh;omega
theorem xA:Inv t0 (λ_=>1):=by
 refine⟨zv,λn _ hh=>?_,λ_ _=>rfl,λ_ _ _ _=>aC _,λ_ _ _ _ _ _ _ h=>aZ rfl h,λn x _ _=>⟨λ⟨p,_,h⟩=>?_,λ⟨h,_⟩=>aZ rfl h⟩,λx _ h=>aZ rfl h⟩
 .simp[t0]at hh|-;exact λe=>aZ e hh
 .simp[t0]at h
theorem Inv.dead{t:T}(h:Inv t d){p:Nat}(hn:n<6)(hp:p<21)(hh:t.here n=bA):t.cr n p=0:=by
 by_cases e:t.cr n p=0
 .exact e
 .have hl:=h.qb n p hn hp;have:=(h.has n (t.cr n p-1) hn bB).1 ⟨p,hp,bB⟩;have o:=h.pM (t.cr n p-1) bB this.1;have:=(h.tree.mem bB o.2 n this.2).2.1;rw[hh]at this;cases this
end Sp
namespace Sp
section
variable {t:T}{d:Nat->Nat}
theorem Inv.add(h:Inv t d)(z:Int):∃d',Inv (fZ t z) d':=by
 unfold fZ;by_cases k:je t z=0
 .rw[aJ k];obtain⟨n,rfl,hn,hh,hl,hf,hfh,_⟩:=pD k;rw[h.tree.len hn hh]at hl;generalize fK t=f at*;have fn:n≠f:=λe=>by rw[e,hfh]at hh;cases hh
  have f0:f≠0:=λe=>by rw[e,h.tree.root.1]at hfh;cases hfh
  have nf:∀m,t.here m=bw->m≠f:=λm hm e=>by rw[e,hfh]at hm;cases hm
  obtain⟨t',et⟩:∃t':T,{t with here:=nT t.here f bw,par:=gE t.par f n}=t':=⟨_,rfl⟩;have eh:∀m,t'.here m=if m=f then bw else t.here m:=λm=>by rw[<-et];rfl
  have ep:∀m,t'.par m=if m=f then(n:Int)else t.par m:=λm=>by rw[<-et];rfl
  have ew:t'.cr=t.cr:=by rw[<-et]
  have eo:t'.of=t.of:=by rw[<-et]
  have hw:∀m,m<6->t.here m=bw->W t' (m:Int)=W t (m:Int):=λm hm hmh=>yB h.tree (λm hm hh=>by rw[ep,aI (nf m hh)]) hm hmh;rw[et];refine⟨λm=>if m=f then d n+1 else d m,⟨⟨?_,λm m0 hm hmh=>?_,λm hm hmh=>?_⟩,λm hm hmh=>?_,by rw[ew];exact h.sA,by rw[ew];exact h.qb,by rw[ew];exact h.one,λm x hm hx=>?_,λx hx hx0=>?_⟩⟩
  .refine⟨?_,?_,?_⟩
   .rw[eh];split
    .rfl
    .exact h.tree.root.1
   .rw[ep,aI (bQ f0)];exact h.tree.root.2.1
   .show(if 0=f then d n+1 else d 0)=1;rw[aI (bQ f0)];exact h.tree.root.2.2
  .show∃p:Nat,p<6/\t'.par m=(p:Int)/\t'.here p=bw/\(if m=f then d n+1 else d m)=(if p=f then d n+1 else d p)+1;by_cases e:m=f
   .subst e;refine⟨n,hn,by rw[ep,aJ rfl],by rw[eh,aI fn];exact hh,by rw[aJ rfl,aI fn]⟩
   .rw[eh,aI e]at hmh;obtain⟨p,p1,p2,p3,p4⟩:=h.tree.up m m0 hm hmh;grind
  .show 1<=(if m=f then d n+1 else d m)/\(if m=f then d n+1 else d m)<=4;by_cases e:m=f
   .rw[aJ e];omega
   .rw[aI e];rw[eh,aI e]at hmh;exact h.tree.le m hm hmh
  .rw[eh]at hmh;by_cases e:m=f
   .rw[aJ e]at hmh;cases hmh
   .rw[aI e]at hmh;rw[ep,aI e];exact h.no m hm hmh
  .rw[ew,eo,h.has m x hm hx];constructor
   .rintro⟨h1,h2⟩;have o:=h.pM x hx h1;exact⟨h1,by rw[hw _ bB o.2];exact h2⟩
   .rintro⟨h1,h2⟩;have o:=h.pM x hx h1;exact⟨h1,by rw[hw _ bB o.2]at h2;exact h2⟩
  .rw[eo]at hx0|-;have o:=h.pM x hx hx0;exact⟨o.1,by rw[eh];split;rfl;exact o.2⟩
 .rw[aI k];exact⟨d,h⟩
theorem D0(h:fE t n=[])(p:Nat)(hp:p<21):t.cr n p=0:=by
 have h1:=List.map_eq_nil_iff.1 h;have:=List.filter_eq_nil_iff.1 h1 p (by simpa using hp);simpa[jH]using this
theorem Rz(h:kids t n=bA)(k:Nat)(hk:k<6)(hh:t.here k=bw):t.par k≠(n:Int):=λe=>by
 have:kids t n=bw:=by unfold kids;rw[List.any_eq_true];exact⟨k,by simpa using hk,by unfold uS;rw[hh,e];simp⟩
 grind
theorem Ix(h:jo t z=0):∃n:Nat,z=n/\n≠0/\n<6/\t.here n=bw/\fE t n=[]/\kids t n=bA:=by grind [jo,cL,fE,kids]
theorem Inv.drop(h:Inv t d)(z:Int):Inv (gx t z) d:=by
 unfold gx;by_cases k:jo t z=0
 .rw[aJ k];obtain⟨f,rfl,f0,hf,hfh,hm,hk⟩:=Ix k;rw[hU];obtain⟨t',et⟩:∃t':T,{t with here:=nT t.here f bA,par:=gE t.par f 0}=t':=⟨_,rfl⟩;have eh:∀m,t'.here m=if m=f then bA else t.here m:=λm=>by rw[<-et];rfl
  have ep:∀m,t'.par m=if m=f then(0:Int)else t.par m:=λm=>by rw[<-et];rfl
  have ew:t'.cr=t.cr:=by rw[<-et]
  have eo:t'.of=t.of:=by rw[<-et]
  rw[et];have pn:∀m p:Nat,m<6->t.here m=bw->t.par m=(p:Int)->p≠f:=λm p hm hh e c=>Rz hk m hm hh (by rw[e,c]);have tr:Tree t' d:=by
   refine⟨⟨by rw[eh,aI (bQ f0)];exact h.tree.root.1,by rw[ep,aI (bQ f0)];exact h.tree.root.2.1,h.tree.root.2.2⟩,λm m0 hm' hmh=>?_,λm hm' hmh=>?_⟩
   .rw[eh]at hmh;by_cases e:m=f
    .rw[aJ e]at hmh;cases hmh
    .rw[aI e]at hmh;obtain⟨p,p1,p2,p3,p4⟩:=h.tree.up m m0 hm' hmh;exact⟨p,p1,by rw[ep,aI e];exact p2,by rw[eh,aI (pn m p hm' hmh p2)];exact p3,p4⟩
   .rw[eh]at hmh;by_cases e:m=f
    .rw[aJ e]at hmh;cases hmh
    .rw[aI e]at hmh;exact h.tree.le m hm' hmh
  have hw:∀m,m<6->t'.here m=bw->W t (m:Int)=W t' (m:Int):=λm hm' hmh=>yB tr (λk hk' hkh=>by
   rw[eh]at hkh;by_cases e:k=f
   .rw[aJ e]at hkh;cases hkh
   .rw[ep,aI e]) hm' hmh
  have of:∀x,x<20->t.of x≠0->t.of x-1≠f:=λx hx hx0 e=>by
   have o:=h.pM x hx hx0;have:t.of x-1∈W t ((t.of x-1:Nat):Int):=by rw[h.tree.step bB o.2];simp
   obtain⟨p,hp,hw⟩:=(h.has (t.of x-1) x bB hx).2 ⟨hx0,this⟩;rw[e,D0 hm p hp]at hw;omega
  refine⟨tr,λm hm' hmh=>?_,by rw[ew];exact h.sA,by rw[ew];exact h.qb,by rw[ew];exact h.one,λm x hm' hx=>?_,λx hx hx0=>?_⟩
  .rw[eh]at hmh;by_cases e:m=f
   .rw[ep,aJ e]
   .rw[aI e]at hmh;rw[ep,aI e];exact h.no m hm' hmh
  .rw[ew,eo,h.has m x hm' hx];constructor
   .rintro⟨h1,h2⟩;have o:=h.pM x hx h1;exact⟨h1,by rw[<-hw _ bB (by rw[eh,aI (of x hx h1)];exact o.2)];exact h2⟩
   .rintro⟨h1,h2⟩;have o:=h.pM x hx h1;grind
  .rw[eo]at hx0|-;have o:=h.pM x hx hx0;exact⟨o.1,by rw[eh,aI (of x hx hx0)];exact o.2⟩
 .rw[aI k];exact h
theorem uW:∀(l m:List Nat),l.Nodup->(∀x∈l,x∈m)->l.length<=m.length
 |[],_,_,_=>aC _
 |a::t,m,hn,hs=>by
  have hn':=List.nodup_cons.1 hn;have:=uW t (m.erase a) hn'.2 (λx hx=>(List.mem_erase_of_ne (show x≠a from λe=>hn'.1 (by rw[<-e];exact hx))).2 (hs x (by simp[hx])));grind
theorem Inv.room(h:Inv t d)(hx:x<20)(h0:t.of x=0)(hn:n<6):∃p,1<=p/\p<21/\t.cr n p=0:=by
 refine Classical.byContradiction λhc=>?_;have hne:∀p,p<20->t.cr n (p+1)≠0:=λp hp e=>hc ⟨p+1,bB,bB,e⟩;have hl:((List.range 20).map (λp=>t.cr n (p+1)-1)).Nodup:=by
  rw[List.nodup_iff_pairwise_ne,List.pairwise_map];refine List.Pairwise.imp_of_mem ?_ (List.nodup_iff_pairwise_ne.1 List.nodup_range);intro a b ha hb hab e;have ha':a<20:=by simpa using ha
  have hb':b<20:=by simpa using hb
  have a0:=hne a ha';have b0:=hne b hb';have:=h.one n (a+1) (b+1) hn bB bB bB a0;omega
 have hs:∀y∈(List.range 20).map (λp=>t.cr n (p+1)-1),y∈(List.range 20).erase x:=by
  intro y hy;obtain⟨a,ha,rfl⟩:=List.mem_map.1 hy;have ha':a<20:=by simpa using ha
  have a0:=hne a ha';have al:=h.qb n (a+1) hn bB;rw[List.Nodup.mem_erase_iff List.nodup_range];refine⟨λe=>?_,by simp;omega⟩;have:=(h.has n x hn hx).1 ⟨a+1,bB,bB⟩;exact this.1 h0
 have hlen:=uW _ _ hl hs;grind
theorem Inv.low(h:Inv t d){x n:Nat}(hx:x<20)(h0:t.of x=0)(hn:n<6):1<=Sp.low t n/\Sp.low t n<21/\t.cr n (Sp.low t n)=0/\∀q,1<=q->q<Sp.low t n->t.cr n q≠0:=by
 obtain⟨p,p1,p2,p3⟩:=h.room hx h0 hn;unfold Sp.low;cases hf:(List.range 21).find? (u6 t n)with
 |none=>
  have:=List.find?_eq_none.1 hf p (by simpa using p2);exact aZ (by unfold u6;rw[p3];simp;omega) this
 |some k=>
  have:=mu hf;have h1:=this.2.1;unfold u6 at h1;simp at h1;refine⟨h1.1,this.1,h1.2,λq q1 q2 e=>?_⟩;unfold u6 at this;grind
theorem T5{p:Nat}(p1:1<=p)(p2:p<21)(h:t.cr n p=0)(hl:∀q,1<=q->q<p->t.cr n q≠0):Sp.low t n=p:=by
 unfold Sp.low;rw[Ak p2 (by unfold u6;rw[h];simp;omega) (λq hq=>by
  unfold u6;by_cases e:1<=q
  .grind
  .simp[e])]
 rfl
theorem Km{x:Int}(h:mP t z x=0):∃n k:Nat,z=n/\x=k/\n<6/\k<20/\t.here n=bw/\t.of k=0:=by grind [mP,jr,tR]
theorem Inv.enter(h:Inv t d)(z x:Int):Inv (fM t z x) d:=by
 unfold fM;by_cases k:mP t z x=0
 .rw[aJ k];obtain⟨n,y,rfl,rfl,hn,hy,hh,h0⟩:=Km k;rw[hU,hU];obtain⟨t',et⟩:∃t':T,{Ee t (W t n) y with of:=uA t.of y (n+1)}=t':=⟨_,rfl⟩;have eh:t'.here=t.here:=by rw[<-et];rfl
  have ep:t'.par=t.par:=by rw[<-et];rfl
  have ew:∀m p,t'.cr m p=if m∈W t n/\p=Sp.low t m then y+1 else t.cr m p:=λm p=>by rw[<-et];rfl
  have eo:∀u,t'.of u=if u=y then n+1 else t.of u:=λu=>by rw[<-et];rfl
  rw[et];have hw:∀m,m<6->t.here m=bw->W t' (m:Int)=W t (m:Int):=λm hm hmh=>yB h.tree (λk _ _=>by rw[ep]) hm hmh;have lw:∀m,m<6->_:=λm hm=>h.low (n:=m) hy h0 hm;have free:∀m p,m<6->p<21->t.cr m p≠y+1:=λm p hm hp e=>((h.has m y hm hy).1 ⟨p,hp,e⟩).1 h0;refine⟨⟨by rw[eh,ep];exact h.tree.root,by rw[eh,ep];exact h.tree.up,by rw[eh];exact h.tree.le⟩,by rw[eh,ep];exact h.no,λm hm=>?_,λm p hm hp=>?_,λm p q hm hp hq e e0=>?_,λm u hm hu=>?_,λu hu u0=>?_⟩
  .rw[ew,aI (λc=>by have:=(lw m hm).1;omega)];exact h.sA m hm
  .rw[ew];split
   .omega
   .exact h.qb m p hm hp
  .rw[ew]at e e0;rw[ew m q]at e;by_cases c:m∈W t n/\p=Sp.low t m
   .rw[aJ c]at e e0;by_cases c2:m∈W t n/\q=Sp.low t m
    .rw[c.2,c2.2]
    .rw[aI c2]at e;exact aZ e.symm (free m q hm hq)
   .rw[aI c]at e e0;by_cases c2:m∈W t n/\q=Sp.low t m
    .rw[aJ c2]at e;exact aZ e (free m p hm hp)
    .rw[aI c2]at e;exact h.one m p q hm hp hq e e0
  .rw[eo];by_cases e:u=y
   .subst e;grind
   .rw[aI e];have hm':(∃p,p<21/\t'.cr m p=u+1)↔(∃p,p<21/\t.cr m p=u+1):=by
     constructor
     .rintro⟨p,hp,e2⟩;rw[ew]at e2;by_cases c:m∈W t n/\p=Sp.low t m
      .rw[aJ c]at e2;omega
      .rw[aI c]at e2;exact⟨p,hp,e2⟩
     .rintro⟨p,hp,e2⟩;refine⟨p,hp,?_⟩;rw[ew,aI (λc=>by rw[c.2,(lw m hm).2.2.1]at e2;omega)];exact e2
    rw[hm',h.has m u hm hu];constructor
    .rintro⟨h1,h2⟩;have o:=h.pM u hu h1;exact⟨h1,by rw[hw _ bB o.2];exact h2⟩
    .rintro⟨h1,h2⟩;have o:=h.pM u hu h1;exact⟨h1,by rw[hw _ bB o.2]at h2;exact h2⟩
  .rw[eo]at u0|-;rw[eh];by_cases e:u=y
   .rw[aJ e];exact⟨by omega,by rw[aP];exact hh⟩
   .rw[aI e]at u0|-;exact h.pM u hu u0
 .rw[aI k];exact h
theorem Dt{x:Int}(h:mL t x=0):∃k:Nat,x=k/\k<20/\t.of k≠0:=by grind [mL,lM]
theorem Inv.leave(h:Inv t d)(x:Int):Inv (dG t x) d:=by
 unfold dG;by_cases k:mL t x=0
 .rw[aJ k];obtain⟨y,rfl,hy,h0⟩:=Dt k;rw[hU];obtain⟨t',et⟩:∃t':T,{Ag t (List.range 6) y with of:=uA t.of y 0}=t':=⟨_,rfl⟩;have eh:t'.here=t.here:=by rw[<-et];rfl
  have ep:t'.par=t.par:=by rw[<-et];rfl
  have ew:∀m p,m<6->t'.cr m p=if t.cr m p=y+1 then 0 else t.cr m p:=λm p hm=>by rw[<-et];simp[Ag,hm]
  have eo:∀u,t'.of u=if u=y then 0 else t.of u:=λu=>by rw[<-et];rfl
  rw[et];have hw:∀m,m<6->t.here m=bw->W t' (m:Int)=W t (m:Int):=λm hm hmh=>yB h.tree (λk _ _=>by rw[ep]) hm hmh;refine⟨⟨by rw[eh,ep];exact h.tree.root,by rw[eh,ep];exact h.tree.up,by rw[eh];exact h.tree.le⟩,by rw[eh,ep];exact h.no,λm hm=>?_,λm p hm hp=>?_,λm p q hm hp hq e e0=>?_,λm u hm hu=>?_,λu hu u0=>?_⟩
  .rw[ew _ _ hm,h.sA m hm];rfl
  .rw[ew _ _ hm];split
   .omega
   .exact h.qb m p hm hp
  .rw[ew _ _ hm]at e e0;rw[ew _ q hm]at e;by_cases c:t.cr m p=y+1
   .rw[aJ c]at e0;exact aZ rfl e0
   .rw[aI c]at e e0;by_cases c2:t.cr m q=y+1
    .rw[aJ c2]at e;exact aZ e e0
    .rw[aI c2]at e;exact h.one m p q hm hp hq e e0
  .rw[eo];by_cases e:u=y
   .subst e;rw[aJ rfl];constructor
    .rintro⟨p,hp,e⟩;rw[ew _ _ hm]at e;by_cases c:t.cr m p=u+1
     .rw[aJ c]at e;omega
     .rw[aI c]at e;exact aZ e c
    .rintro⟨c,_⟩;exact aZ rfl c
   .rw[aI e];have hm':(∃p,p<21/\t'.cr m p=u+1)↔(∃p,p<21/\t.cr m p=u+1):=by grind
    rw[hm',h.has m u hm hu];constructor
    .rintro⟨h1,h2⟩;have o:=h.pM u hu h1;exact⟨h1,by rw[hw _ bB o.2];exact h2⟩
    .rintro⟨h1,h2⟩;have o:=h.pM u hu h1;exact⟨h1,by rw[hw _ bB o.2]at h2;exact h2⟩
  .rw[eo]at u0|-;rw[eh];by_cases e:u=y
   .rw[aJ e]at u0;exact aZ rfl u0
   .rw[aI e]at u0|-;exact h.pM u hu u0
 .rw[aI k];exact h
end
end Sp
open Go.RowKit
open Sp (T)
def Vy(c:Bool):TypeId:=if c then 181 else 100000
def cw(c h:Bool)(v:Nat):Int:=if c then(if h then(v:Int)-1 else 0)else v
def co(c:Bool)(v:Nat):Int:=if c then(v:Int)-1 else v
def kP(c:Bool)(t:T)(o:Nat):Value:=
 if o<138 then(if o%23=0 then ar (t.here (o/23))else if o%23=1 then aa az (t.par (o/23))else aa az (cw c (t.here (o/23)) (t.cr (o/23) (o%23-2))))else aa az (co c (t.of (o-138)))
theorem dn(c:Bool)(t:T)(n:Nat)(hn:n<6):kP c t (n*23)=ar (t.here n):=by
 unfold kP;rw[nL,nL,show n*23/23=n by omega]
theorem dz(c:Bool)(t:T)(n:Nat)(hn:n<6):kP c t (n*23+1)=aa az (t.par n):=by
 unfold kP;rw[nL,nK,nL,show(n*23+1)/23=n by omega]
theorem dA(c:Bool)(t:T)(n p:Nat)(hn:n<6)(hp:p<21):kP c t (n*23+2+p)=aa az (cw c (t.here n) (t.cr n p)):=by
 unfold kP;rw[nL,nK,nK,show(n*23+2+p)/23=n by omega,show(n*23+2+p)%23-2=p by omega]
theorem dV(c:Bool)(t:T)(x:Nat):kP c t (138+x)=aa az (co c (t.of x)):=by
 unfold kP;rw[nK,show 138+x-138=x by omega]
theorem gw{P:Nat->Prop}(h1:∀n,n<6->P (n*23))(h2:∀n,n<6->P (n*23+1))(h3:∀n p,n<6->p<21->P (n*23+2+p))(h4:∀x,x<20->P (138+x))(o:Nat)(ho:o<158):P o:=by
 by_cases a:o<138
 .by_cases r0:o%23=0
  .have:=h1 (o/23) bB;rwa [show o/23*23=o by omega]at this
  .by_cases r1:o%23=1
   .have:=h2 (o/23) bB;rwa [show o/23*23+1=o by omega]at this
   .have:=h3 (o/23) (o%23-2) bB bB;rwa [show o/23*23+2+(o%23-2)=o by omega]at this
 .have:=h4 (o-138) bB;rwa [show 138+(o-138)=o by omega]at this
structure Tb (c:Bool)(w:bD)(b:Nat)(t:T):Prop where
 dk:∃C,w.heap[b]? =bj (bh C (Vy c) (0,0))/\C.size=158
 cell:∀o,o<158->w.cell? ⟨b,o,bu⟩=bj (kP c t o)
section
variable {c:Bool}{w w':bD}{b:Nat}{t t':T}
theorem Tb.drew(h:Tb c w b t):Tb c w.drew b t:=⟨h.dk,h.cell⟩
theorem Tb.frozen(h:Tb c w b t)(o:Nat):w.frozen? ⟨b,o,bu⟩=bA:=by obtain⟨C,h1,_⟩:=h.dk;exact cE h1 o
theorem Tb.lt(h:Tb c w b t):b<w.heap.size:=by obtain⟨C,h1,_⟩:=h.dk;exact(aX.1 h1).1
theorem Tb.same(h:Tb c w b t)(e:w'.heap[b]? =w.heap[b]?):Tb c w' b t:=⟨by rw[e];exact h.dk,λo ho=>(aV e).trans (h.cell o ho)⟩
theorem Tb.below(h:Tb c w b t)(k:Below w.heap.size w w'):Tb c w' b t:=h.same (k.block b h.lt)
theorem Tb.congr(h:Tb c w b t)(e:∀o,o<158->kP c t' o=kP c t o):Tb c w b t':=⟨h.dk,λo ho=>by rw[e o ho];exact h.cell o ho⟩
theorem Tb.Cq(h:Tb c w b t)(n:Nat)(hn:n<6):w.cell? ⟨b,n*23,bu⟩=bj (ar (t.here n)):=by rw[h.cell _ bB,dn c t n hn]
theorem Tb.uL(h:Tb c w b t)(n:Nat)(hn:n<6):w.cell? ⟨b,n*23+1,bu⟩=bj (aa az (t.par n)):=by rw[h.cell _ bB,dz c t n hn]
theorem Tb.Io(h:Tb c w b t)(n p:Nat)(hn:n<6)(hp:p<21):w.cell? ⟨b,n*23+2+p,bu⟩=bj (aa az (cw c (t.here n) (t.cr n p))):=by rw[h.cell _ bB,dA c t n p hn hp]
theorem Tb.Tj(h:Tb c w b t)(x:Nat)(hx:x<20):w.cell? ⟨b,138+x,bu⟩=bj (aa az (co c (t.of x))):=by rw[h.cell _ bB,dV]
theorem Tb.PK(h:Tb bw w b t)(n p:Nat)(hn:n<6)(hp:p<21)(hh:t.here n=bw):w.cell? ⟨b,n*23+2+p,bu⟩=bj (aa az ((t.cr n p:Int)-1)):=by rw[h.Io n p hn hp,hh];rfl
theorem Tb.Qh(h:Tb bw w b t)(x:Nat)(hx:x<20):w.cell? ⟨b,138+x,bu⟩=bj (aa az ((t.of x:Int)-1)):=by rw[h.Tj x hx];rfl
theorem Tb.set(h:Tb c w b t)(o:Nat)(ho:o<158)(v:Value)(hv:∀i,i<158->kP c t' i=if i=o then v else kP c t i):Tb c (w.setCell ⟨b,o,bu⟩ v) b t':=by
 obtain⟨C,h1,h2⟩:=h.dk;refine⟨⟨_,cO h1 _ v,by simpa using h2⟩,λi hi=>?_⟩;rw[hv i hi];by_cases e:i=o
 .subst e;rw[dE h1 _ v bB,aJ rfl]
 .rw[du h1 _ _ v (bQ e),aI e];exact h.cell i hi
def Mz(t:T)(n p v:Nat):T:={t with cr:=λa q=>if a=n/\q=p then v else t.cr a q}
theorem Tb.Mf(h:Tb c w b t)(n p v:Nat)(hn:n<6)(hp:p<21):Tb c (w.setCell ⟨b,n*23+2+p,bu⟩ (aa az (cw c (t.here n) v))) b (Mz t n p v):=by
 refine h.set _ bB _ (gw (λm hm=>?_) (λm hm=>?_) (λm q hm hq=>?_) (λx hx=>?_))
 .rw[dn c _ m hm,dn c _ m hm,nK];rfl
 .rw[dz c _ m hm,dz c _ m hm,nK];rfl
 .rw[dA c _ m q hm hq,dA c _ m q hm hq];by_cases e:m=n/\q=p
  .obtain⟨rfl,rfl⟩:=e;rw[aJ rfl];simp[Mz]
  .rw[nK];simp[Mz,e]
 .rw[dV,dV,nK];rfl
theorem Tb.setOf(h:Tb c w b t)(x v:Nat)(hx:x<20):Tb c (w.setCell ⟨b,138+x,bu⟩ (aa az (co c v))) b {t with of:=Sp.uA t.of x v}:=by
 refine h.set _ bB _ (gw (λm hm=>?_) (λm hm=>?_) (λm q hm hq=>?_) (λy hy=>?_))
 .rw[dn c _ m hm,dn c _ m hm,nK]
 .rw[dz c _ m hm,dz c _ m hm,nK]
 .rw[dA c _ m q hm hq,dA c _ m q hm hq,nK]
 .rw[dV,dV];by_cases e:y=x
  .subst e;rw[aJ rfl];simp[Sp.uA]
  .rw[nK];simp[Sp.uA,e]
end
def eU(hh:Bool)(p:Int)(f:Nat->Int):Array Value:=((List.range 23).map λi=>if i=0 then ar hh else if i=1 then aa az p else aa az (f (i-2))).toArray
theorem fC(hh:Bool)(p:Int)(f:Nat->Int):(eU hh p f).size=23:=by simp[eU]
theorem sU(hh:Bool)(p:Int)(f:Nat->Int):(eU hh p f).toList.length=23:=by simp[eU]
theorem oB(hh:Bool)(p:Int)(f:Nat->Int)(i:Nat)(h:i<23):(eU hh p f)[i]? =bj (if i=0 then ar hh else if i=1 then aa az p else aa az (f (i-2))):=by simp[eU,h]
theorem sV(hh:Bool)(p:Int)(f:Nat->Int):(eU hh p f).all (·.oneCell')=bw:=by
 rw[Array.all_eq_true_iff_forall_mem];intro v hv;simp only[eU,List.mem_toArray,List.mem_map]at hv;obtain⟨i,_,rfl⟩:=hv;split
 .rfl
 .split<;>rfl
theorem Ss(hh:Bool)(p:Int)(f:Nat->Int)(i:Nat)(v:Int)(hi:i<21):(eU hh p f).setIfInBounds (2+i) (aa az v)=eU hh p (Sp.gE f i v):=by
 apply bL;intro j;rcases Nat.lt_or_ge j 23 with hj|hj
 .rw[oB _ _ _ j hj];by_cases e:j=2+i
  .subst e;rw[aE (by rw[fC];omega),nK,nK];simp[Sp.gE]
  .rw[aU bB,oB _ _ _ j hj];by_cases e0:j=0
   .rw[aJ e0,aJ e0]
   .by_cases e1:j=1
    .rw[aI e0,aJ e1,aI e0,aJ e1]
    .rw[aI e0,aI e1,aI e0,aI e1];unfold Sp.gE;rw[nK]
 .rw[aR (by simp[eU];omega),aR (by rw[fC];omega)]
section
variable {c:Bool}{w:bD}{b:Nat}{t t':T}
theorem Tb.there(h:Tb c w b t)(n:Nat)(hn:n<6)(k:Nat)(hk:k=23):w.there b (n*23) k:=by
 obtain⟨C,h1,h2⟩:=h.dk;intro j hj;exact⟨by rw[bS h1,Array.getElem?_eq_getElem bB];rfl,cE h1 _⟩
theorem Tb.store(h:Tb c w b t)(n:Nat)(hn:n<6)(hh:Bool)(p:Int)(f:Nat->Int):(storeCells ⟨b,n*23,bu⟩ (eU hh p f).toList).run prog w= .ok () (w.setCells b (n*23) (eU hh p f).toList):=by
 have ht:=h.there n hn 23 rfl;have hs:=sU hh p f;have:=run_storeCells_cells (P:=prog) b (n*23) (eU hh p f).toList 0 w
  (λj hj=>by simpa using(ht j bB).1) (λj hj=>by simpa using(ht j bB).2)
  (λv hv=>(Array.all_eq_true_iff_forall_mem.1 (sV hh p f)) v (by simpa using hv))
 simp only[Nat.add_zero]at this;exact this
theorem Tb.xR(h:Tb c w b t)(n:Nat)(hn:n<6)(hh:Bool)(p:Int)(f:Nat->Int)(g:Nat->Nat)(hf:∀q,q<21->f q=cw c hh (g q)):
  Tb c (w.setCells b (n*23) (eU hh p f).toList) b {t with here:=Sp.nT t.here n hh,par:=Sp.gE t.par n p,cr:=λa q=>if a=n then g q else t.cr a q}:=by
 obtain⟨C,h1,h2⟩:=h.dk;have ht:=h.there n hn 23 rfl;have hs:=sU hh p f;obtain⟨C',k1,k2⟩:=eR b (eU hh p f).toList (n*23) w C h1;have hin:∀j,j<23->(w.setCells b (n*23) (eU hh p f).toList).cell? ⟨b,n*23+j,bu⟩=(eU hh p f)[j]? :=λj hj=>by
  rw[aS b (eU hh p f).toList (n*23) w (λi hi=>(ht i bB).1) j bB,<-aM,aW bB]
 have hout:∀i,i<n*23\/n*23+23<=i->(w.setCells b (n*23) (eU hh p f).toList).cell? ⟨b,i,bu⟩=w.cell? ⟨b,i,bu⟩:=λi hi=>by
  refine aA b _ (n*23) w ⟨b,i,bu⟩ (λ_ _=>?_);rw[hs];exact hi
 refine⟨⟨C',k1,bB⟩,gw (λm hm=>?_) (λm hm=>?_) (λm q hm hq=>?_) (λy hy=>?_)⟩
 .rw[dn c _ m hm];by_cases e:m=n
  .subst e;have:=hin 0 bB;rw[oB _ _ _ 0 bB]at this;rw[Nat.add_zero]at this;rw[this];simp[Sp.nT]
  .rw[hout _ bB,h.Cq m hm];simp[Sp.nT,e]
 .rw[dz c _ m hm];by_cases e:m=n
  .subst e;rw[hin 1 bB,oB _ _ _ 1 bB];simp[Sp.gE]
  .rw[hout _ bB,h.uL m hm];simp[Sp.gE,e]
 .rw[dA c _ m q hm hq];by_cases e:m=n
  .subst e;rw[show m*23+2+q=m*23+(2+q)by omega,hin (2+q) bB,oB _ _ _ (2+q) bB,nK,nK,show 2+q-2=q by omega,hf q hq];simp[Sp.nT]
  .rw[hout _ bB,h.Io m q hm hq];simp[Sp.nT,e]
 .rw[dV,hout _ bB,h.Tj y hy]
end
theorem eY(b:Nat)(z:Int)(t:T)(w:bD)(h:Tb bw w b t):Calls prog 136 #[ai (bj ⟨b,0,bu⟩),aa az z] w λe w'=>e=bf (bN (Sp.cL t z))/\w'=w:=by
 by_cases k:z<0\/6<=z
 .have e:Hid (Sp.cL t z=1):=hZ (aJ k);by_cases h0:z<0
  .clear k;go_in
   go_wp2
   go_ret
   rw[e.v];exact⟨rfl,rfl⟩
  .have h1:decide (z<0)=bA:=by simp;omega
   have h2:6<=z:=bB
   go_in
   go_wp2
   go_ret
   rw[e.v];exact⟨rfl,rfl⟩
 .obtain⟨n,rfl⟩:=aG (show 0<=z by omega);have hn:n<6:=bB
  have h1:(n:Int)<6:=bB
  have h2:decide (6<=(n:Int))=bA:=by simp;omega
  have c0:=h.Cq n hn;cases hh:t.here n
  .have e:Hid (Sp.cL t n=2):=hZ (by unfold Sp.cL;rw[aI k,hU,hh];rfl);rw[hh]at c0;go_in
   go_wp2
   go_ret
   rw[e.v];exact⟨rfl,rfl⟩
  .have e:Hid (Sp.cL t n=0):=hZ (by unfold Sp.cL;rw[aI k,hU,hh];rfl);rw[hh]at c0;go_in
   go_wp2
   go_ret
   rw[e.v];exact⟨rfl,rfl⟩
theorem np(z:Int)(w:bD):Calls prog 215 #[aa az z] w λe w'=>e=bf (bN (Sp.lM z))/\w'=w:=by
 by_cases k:z<0\/20<=z
 .have e:Hid (Sp.lM z=1):=hZ (aJ k);by_cases h0:z<0
  .clear k;go_in
   go_wp2
   go_ret
   rw[e.v];exact⟨rfl,rfl⟩
  .have h1:decide (z<0)=bA:=by simp;omega
   have h2:20<=z:=bB
   go_in
   go_wp2
   go_ret
   rw[e.v];exact⟨rfl,rfl⟩
 .have e:Hid (Sp.lM z=0):=hZ (aI k);have h1:decide (z<0)=bA:=by simp;omega
  have h2:decide (20<=z)=bA:=by simp;omega
  go_in
  go_wp2
  go_ret
  rw[e.v];exact⟨rfl,rfl⟩
theorem lg(b:Nat)(z x:Int)(t:T)(w:bD)(h:Tb bw w b t):Calls prog 220 #[ai (bj ⟨b,0,bu⟩),aa az z,aa az x] w λe w'=>e=bf (bN (Sp.jr t z x))/\w'=w:=by
 have HF:=hZ h;by_cases k:Sp.cL t z=0
 .have HK:=hZ k;have HE:Hid (Sp.jr t z x=Sp.lM x):=hZ (aJ k);go_in
  go_wp2_with fail
  refine sC (eY b z t _ HF.v) ?_;rintro w1 hw;subst w1;rw[HK.v,bF];go_wp2_with fail
  refine sC (np x _) ?_;rintro w1 hw;subst w1;go_wp2
  go_ret
  rw[HE.v];exact⟨rfl,rfl⟩
 .have HE:Hid (Sp.jr t z x=Sp.cL t z):=hZ (aI k);have HN:=hZ k;go_in
  go_wp2_with fail
  refine sC (eY b z t _ HF.v) ?_;rintro w1 hw;subst w1;rw[bM HN.v];go_wp2
  go_ret
  rw[HE.v,bM HN.v];exact⟨rfl,rfl⟩
theorem wa(n:Nat):((n:Int)== -1)=bA:=by simp
theorem pH(b n:Nat)(t:T)(d:Nat->Nat)(w:bD)(h:Tb bw w b t)(hT:Sp.Tree t d)(hn:n<6)(hh:t.here n=bw):
  Calls prog 218 #[ai (bj ⟨b,0,bu⟩),aa az n] w λe w'=>e=bf (aa az (((Sp.W t n).length:Nat):Int))/\w'=w:=by
 have HF:=hZ h;have HT:=hZ hT;have HL:Hid ((Sp.W t n).length<=4):=hZ (by rw[hT.len hn hh];exact(hT.le n hn hh).2);have HH:=hZ hh;go_in
 go_wp2
 go_loopw [5,6] (λs i wr=>∃(k:Nat) (z:Int),s=aa az k/\i=aa az z/\wr=w/\Hid (k+(Sp.W t z).length=(Sp.W t n).length/\(z= -1\/∃m:Nat,z=m/\m<6/\t.here m=bw))) (λ_ i _=>(Sp.W t (intOf i)).length)
 case atStart=>exact⟨0,n,rfl,rfl,rfl,bB, .inr ⟨n,rfl,hn,HH.v⟩⟩
 case round=>
  obtain⟨k,z,rfl,rfl,hw,HN⟩:=hrel;subst wr;rcases HN.2 with rfl|⟨m,rfl,hm,hmh⟩
  .have HE:Hid (k=(Sp.W t n).length):=hZ (by have:=HN.1;rw[Sp.qh t (-1) bB]at this;simpa using this);go_wp2
   go_ret
   rw[<-HE.v];exact⟨rfl,rfl⟩
  .have HMH:=hZ hmh;have ST:=hZ (HT.step hm hmh);have PC:=hZ (HT.im hm hmh);have c1:=HF.uL m hm;have hmI:(m:Int)<6:=bB
   have hne:=wa m;have hk4:k<=4:=by have:=HN.1;have:=HL.v;omega
   go_wp2
   go_roundw
   case rel=>
    refine⟨k+1,t.par m,by go_num,by first|rfl|trivial,by first|rfl|trivial,?_,?_⟩
    .have:=HN.1;rw[ST.v,List.length_cons]at this;omega
    .rcases PC.v with⟨_,e,_⟩|⟨p,p1,p2,p3,_⟩
     .exact .inl e
     .exact .inr ⟨p,p2,p1,p3⟩
   case measure=>
    simp only[intOf];rw[ST.v,List.length_cons];omega
theorem Ec(b:Nat)(x:Int)(t:T)(w:bD)(h:Tb bw w b t):Calls prog 137 #[ai (bj ⟨b,0,bu⟩),aa az x] w λe w'=>e=bf (ao #[aa az (Sp.dQ t x:Int),bN (Sp.mL t x)])/\w'=w:=by
 by_cases k:Sp.lM x=0
 .have HK:=hZ k;obtain⟨n,rfl,hn⟩:=Sp.ze k;have hnI:(n:Int)<20:=bB
  have c:=h.Qh n hn;by_cases o:t.of n=0
  .have HE:Hid (Sp.mL t n=2):=hZ (by unfold Sp.mL;rw[aJ k,hU,aJ o]);have HN:Hid (Sp.dQ t n=0):=hZ (by unfold Sp.dQ;rw[HE.v];rfl);rw[o]at c;have c':w.cell? ⟨b,138+n,bu⟩=bj (aa az (-1)):=c;go_in
   go_wp2_with fail
   refine sC (np _ _) ?_;rintro w1 hw;subst w1;rw[HK.v,bF];go_wp2
   go_ret2
   rw[HE.v,HN.v];exact⟨rfl,rfl⟩
  .have HE:Hid (Sp.mL t n=0):=hZ (by unfold Sp.mL;rw[aJ k,hU,aI o]);have HN:Hid ((Sp.dQ t n:Int)=(t.of n:Int)-1):=hZ (by unfold Sp.dQ;rw[HE.v,aJ rfl,hU];omega);obtain⟨v,hv⟩:=nJ ((t.of n:Int)-1);have v0:(v== -1)=bA:=by simp;omega
   rw[hv]at c HN;go_in
   go_wp2_with fail
   refine sC (np _ _) ?_;rintro w1 hw;subst w1;rw[HK.v,bF];go_wp2
   go_ret2
   rw[HE.v,HN.v];exact⟨rfl,rfl⟩
 .have HE:Hid (Sp.mL t x=Sp.lM x):=hZ (by unfold Sp.mL;rw[aI k]);have HN:Hid (Sp.dQ t x=0):=hZ (by unfold Sp.dQ;rw[HE.v,aI k]);have HW:=hZ k;go_in
  go_wp2_with fail
  refine sC (np _ _) ?_;rintro w1 hw;subst w1;rw[bM HW.v];go_wp2
  go_ret2
  rw[HE.v,HN.v,bM HW.v];exact⟨rfl,rfl⟩
def Tc(f:Nat->Int)(n:Nat)(v r:Int):Prop:=(∃i:Nat,i<n/\f i=v/\(∀j,j<i->f j≠v)/\r=i)\/((∀i,i<n->f i≠v)/\r= -1)
theorem Bn(b o n cap:Nat)(f:Nat->Int)(v:Int)(w:bD)(h:∀i,i<n->w.cell? ⟨b,o+i,bu⟩=bj (aa az (f i)))(hn:n<=1000):
  Calls prog 268 #[aj (bj ⟨b,o,bu⟩) n cap,aa az v] w λe w'=>∃r,e=bf (aa az r)/\Tc f n v r/\w'=w:=by
 have H:=hZ h;go_in
 go_wp2
 go_loopw [8] (λi wr=>∃(k:Nat),i=aa az k/\k<=n/\wr=w/\Hid (∀j,j<k->f j≠v)) (λi _=>n-(intOf i).toNat)
 case atStart=>exact⟨0,rfl,bB,rfl,λj hj=>bB⟩
 case round=>
  obtain⟨k,rfl,hk,hw,HN⟩:=hrel;subst wr;by_cases hlt:k<n
  .have hltI:(k:Int)<(n:Int):=bB
   have cc:=H.v k hlt;by_cases e:f k=v
   .have HE:=hZ e;rw[e]at cc;go_wp2
    go_ret
    exact⟨_,rfl, .inl ⟨k,hlt,HE.v,HN.v,rfl⟩,rfl⟩
   .have HE:=hZ e;generalize hf:f k=u at*;have HU:=hZ hf;have e1:(v==u)=bA:=by simp;exact λc=>HE.v c.symm
    go_wp2
    go_roundw
    case rel=>exact⟨k+1,by go_num,bB,by first|rfl|trivial,λj hj=>by
     by_cases c:j=k
     .rw[c,HU.v];exact HE.v
     .exact HN.v j bB⟩
    case measure=>simp[intOf];omega
  .have hltI:¬(k:Int)<(n:Int):=bB
   go_wp2
   go_ret
   exact⟨_,rfl, .inr ⟨λi hi=>HN.v i bB,rfl⟩,rfl⟩
theorem Tb.row(w:bD)(b n:Nat)(t:T)(h:Tb bw w b t)(hn:n<6)(hh:t.here n=bw):∀i,i<21->w.cell? ⟨b,n*23+2+i,bu⟩=bj (aa az ((t.cr n i:Int)-1)):=λi hi=>h.PK n i hn hi hh
def vk(t:T)(n x:Nat):Int:=if Sp.jb t n x=0 then -1 else(Sp.jb t n x:Int)
theorem Sb{t:T}{r:Int}(h0:t.cr n 0=0)(h:Tc (λi=>(t.cr n i:Int)-1) 21 x r):r=vk t n x:=by
 unfold vk Sp.jb;rcases h with⟨i,hi,e,hl,rfl⟩|⟨hl,rfl⟩
 .have e':(t.cr n i:Int)-1=x:=e;rw[Sp.Ak (P:=Sp.wU t n x) hi (by unfold Sp.wU;simp;omega) (λj hj=>by have:(t.cr n j:Int)-1≠x:=hl j hj;unfold Sp.wU;simp;omega)];grind
 .rw[Sp.GI (P:=Sp.wU t n x) (λj hj=>by have:(t.cr n j:Int)-1≠x:=hl j hj;unfold Sp.wU;simp;omega)];rfl
theorem AB(b n x:Nat)(t:T)(w:bD)(h:Tb bw w b t)(hn:n<6)(hh:t.here n=bw)(h0:t.cr n 0=0):
  Calls prog 222 #[ai (bj ⟨b,n*23,bu⟩),aa az x] w λe w'=>e=bf (aa az (vk t n x))/\w'=w:=by
 have HR:=hZ (Tb.row w b n t h hn hh);have H0:=hZ h0;go_in
 go_wp2_with fail
 refine(Bn b (n*23+2) 21 21 (λi=>(t.cr n i:Int)-1) x _ HR.v bB).mono ?_;rintro e w1 ⟨r,rfl,hi,hw⟩;subst w1;rw[Sb H0.v hi];go_wp2
 go_ret
 exact⟨rfl,rfl⟩
theorem Oe(b n:Nat)(t:T)(w:bD)(h:Tb bw w b t)(hn:n<6)(hh:t.here n=bw)(hr:∃p,1<=p/\p<21/\t.cr n p=0):
  Calls prog 221 #[ai (bj ⟨b,n*23,bu⟩)] w λe w'=>e=bf (aa az (Sp.low t n:Int))/\w'=w:=by
 have HR:Hid (∀i,i<20->w.cell? ⟨b,n*23+3+i,bu⟩=bj (aa az ((t.cr n (i+1):Int)-1))):=hZ (λi hi=>by
  have:=Tb.row w b n t h hn hh (i+1) bB;rw[show n*23+2+(i+1)=n*23+3+i by omega]at this;exact this)
 have HX:=hZ hr;go_in
 go_wp2_with fail
 refine(Bn b (n*23+3) 20 20 (λi=>(t.cr n (i+1):Int)-1) (-1) _ HR.v bB).mono ?_;rintro e w1 ⟨r,rfl,hi,hw⟩;subst w1;obtain⟨k,hk,rfl,hlow⟩:∃k:Nat,k<20/\r=k/\Sp.low t n=k+1:=by
  rcases hi with⟨i,hi,e,hl,rfl⟩|⟨hl,rfl⟩
  .have e':(t.cr n (i+1):Int)-1= -1:=e;exact⟨i,hi,rfl,Sp.T5 bB bB bB (λq q1 q2 c=>by
    have:(t.cr n (q-1+1):Int)-1≠ -1:=hl (q-1) bB;rw[show q-1+1=q by omega,c]at this;exact this rfl)⟩
  .obtain⟨p,p1,p2,p3⟩:=HX.v;have:(t.cr n (p-1+1):Int)-1≠ -1:=hl (p-1) bB;rw[show p-1+1=p by omega,p3]at this;exact aZ rfl this
 have HL:=hZ hlow;have hk':(k:Int)<20:=bB
 go_wp2
 go_ret
 rw[HL.v];refine⟨?_,rfl⟩;go_num
theorem O4(b:Nat)(x z:Int)(t:T)(w:bD)(h:Tb bw w b t)(h0:∀n,n<6->t.cr n 0=0):
  Calls prog 147 #[ai (bj ⟨b,0,bu⟩),aa az x,aa az z] w λe w'=>e=bf (ao #[aa az (Sp.pX t x z:Int),bN (Sp.Az t x z)])/\w'=w:=by
 have HF:=hZ h;have H0:=hZ h0;by_cases k:Sp.jr t z x=0
 .have HK:=hZ k;obtain⟨n,y,rfl,rfl,hn,hy,hh⟩:=Sp.tR k;have HH:=hZ hh;have hnI:(n:Int)<6:=bB
  have HE:Hid (Sp.Az t y n=if Sp.jb t n y=0 then 2 else 0):=hZ (by unfold Sp.Az;rw[aJ k,hU,hU]);have HN:Hid (Sp.pX t y n=Sp.jb t n y):=hZ (by
   unfold Sp.pX;rw[HE.v];by_cases c:Sp.jb t n y=0
   .rw[aJ c,aI bE,c]
   .rw[aI c,aJ rfl,hU,hU])
  go_in
  go_wp2_with fail
  refine sC (lg b n y t _ HF.v) ?_;rintro w1 hw;subst w1;rw[HK.v,bF];go_wp2_with fail
  refine sC (AB b n y t _ HF.v hn HH.v (H0.v n hn)) ?_;rintro w1 hw;subst w1;unfold vk;by_cases c:Sp.jb t n y=0
  .have HC:=hZ c;rw[aJ c];go_wp2
   go_ret2
   rw[HE.v,HN.v,HC.v];exact⟨rfl,rfl⟩
  .have HC:=hZ c;rw[aI c];generalize hp:Sp.jb t n y=p at*;have hp1:decide ((p:Int)<1)=bA:=by simp;omega
   go_wp2
   go_ret2
   rw[HE.v,HN.v,aI HC.v];exact⟨rfl,rfl⟩
 .have HE:Hid (Sp.Az t x z=Sp.jr t z x):=hZ (by unfold Sp.Az;rw[aI k]);have HN:Hid (Sp.pX t x z=0):=hZ (by unfold Sp.pX;rw[HE.v,aI k]);have HW:=hZ k;go_in
  go_wp2_with fail
  refine sC (lg b z x t _ HF.v) ?_;rintro w1 hw;subst w1;rw[bM HW.v];go_wp2
  go_ret2
  rw[HE.v,HN.v,bM HW.v];exact⟨rfl,rfl⟩
theorem Dp(b:Nat)(z p:Int)(t:T)(w:bD)(h:Tb bw w b t):
  Calls prog 61 #[ai (bj ⟨b,0,bu⟩),aa az z,aa az p] w λe w'=>e=bf (ao #[aa az (Sp.e9 t z p:Int),bN (Sp.ix t z p)])/\w'=w:=by
 have HF:=hZ h;by_cases k:Sp.cL t z=0
 .have HK:=hZ k;obtain⟨n,rfl,hn,hh⟩:=Sp.oO k;have hnI:(n:Int)<6:=bB
  by_cases hp:p<1\/20<p
  .have HE:Hid (Sp.ix t n p=2):=hZ (by unfold Sp.ix;rw[aJ k,nL]);have HN:Hid (Sp.e9 t n p=0):=hZ (by unfold Sp.e9;rw[HE.v];rfl);by_cases p1:p<1
   .clear h k hh hp;go_in
    go_wp2_with fail
    refine sC (eY b n t _ HF.v) ?_;rintro w1 hw;subst w1;rw[HK.v,bF];go_wp2
    go_ret2
    rw[HE.v,HN.v];exact⟨rfl,rfl⟩
   .have p1':decide (p<1)=bA:=by simp;omega
    have p2:21<=p:=bB
    go_in
    go_wp2_with fail
    refine sC (eY b n t _ HF.v) ?_;rintro w1 hw;subst w1;rw[HK.v,bF];go_wp2
    go_ret2
    rw[HE.v,HN.v];exact⟨rfl,rfl⟩
  .obtain⟨q,rfl⟩:=aG (show 0<=p by omega);have cc:=h.PK n q hn bB hh;have q1:decide ((q:Int)<1)=bA:=by simp;omega
   have q2:decide (21<=(q:Int))=bA:=by simp;omega
   have q3:(q:Int)<21:=bB
   by_cases c:t.cr n q=0
   .have HE:Hid (Sp.ix t n q=2):=hZ (by unfold Sp.ix;rw[aJ k,hU,hU,aJ (.inr (.inr c))]);have HN:Hid (Sp.e9 t n q=0):=hZ (by unfold Sp.e9;rw[HE.v];rfl);rw[c]at cc;have cc':w.cell? ⟨b,n*23+2+q,bu⟩=bj (aa az (-1)):=cc;go_in
    go_wp2_with fail
    refine sC (eY b n t _ HF.v) ?_;rintro w1 hw;subst w1;rw[HK.v,bF];go_wp2
    go_ret2
    rw[HE.v,HN.v];exact⟨rfl,rfl⟩
   .have HE:Hid (Sp.ix t n q=0):=hZ (by unfold Sp.ix;rw[aJ k,hU,hU,nK]);have HN:Hid ((Sp.e9 t n q:Int)=(t.cr n q:Int)-1):=hZ (by unfold Sp.e9;rw[HE.v,aJ rfl,hU,hU];omega);obtain⟨v,hv⟩:=nJ ((t.cr n q:Int)-1);have v0:(v== -1)=bA:=by simp;omega
    rw[hv]at cc HN;go_in
    go_wp2_with fail
    refine sC (eY b n t _ HF.v) ?_;rintro w1 hw;subst w1;rw[HK.v,bF];go_wp2
    go_ret2
    rw[HE.v,HN.v];exact⟨rfl,rfl⟩
 .have HE:Hid (Sp.ix t z p=Sp.cL t z):=hZ (by unfold Sp.ix;rw[aI k]);have HN:Hid (Sp.e9 t z p=0):=hZ (by unfold Sp.e9;rw[HE.v,aI k]);have HW:=hZ k;go_in
  go_wp2_with fail
  refine sC (eY b z t _ HF.v) ?_;rintro w1 hw;subst w1;rw[bM HW.v];go_wp2
  go_ret2
  rw[HE.v,HN.v,bM HW.v];exact⟨rfl,rfl⟩
def cY(t:T)(n k:Nat):List Nat:=((List.range k).filter (Sp.jH t n)).map (λp=>t.cr n p-1)
theorem OT{t:T}(h:t.cr n k≠0):cY t n (k+1)=cY t n k++[t.cr n k-1]:=by
 unfold cY;rw[List.range_succ,List.filter_append,List.map_append];simp[Sp.jH,h]
theorem RV{t:T}(h:t.cr n k=0):cY t n (k+1)=cY t n k:=by
 unfold cY;rw[List.range_succ,List.filter_append,List.map_append];simp[Sp.jH,h]
theorem OS(t:T)(n k:Nat):(cY t n k).length<=k:=by
 have:=bW (Sp.jH t n) (List.range k);simpa[cY]using this
def sq(t:T)(n:Nat):List Value:=(List.range 21).map (λp=>aa az ((t.cr n p:Int)-1))
theorem En(t:T)(n:Nat):(sq t n).length=21:=by simp[sq]
theorem Tb.Uk{t:T}(h:Tb bw w b t)(hn:n<6)(hh:t.here n=bw):w.rangeAt b (n*23+2) (sq t n):=λj v hv=>by
 have hj:j<21:=by have:=(aY.1 hv).1;rwa [En]at this
 rw[h.PK n j hn hj hh];simp[sq,hj]at hv;rw[hv]
theorem II(t:T)(n k:Nat)(hk:k<21)(w:bD):Sem.run prog (Instr.index 175 (au (sq t n).toArray) (aa IntKind.i64 k)) w= .ok (aa az ((t.cr n k:Int)-1)) w:=by
 have hu:prog.underlying 175=bj (.array 21 3):=by kernel_rfl
 have h1:(k:Int)<21:=bB
 have hx:(sq t n)[k]? =bj (aa az ((t.cr n k:Int)-1)):=by simp[sq,hk]
 simp[Instr.index,Sem.run_bind,run_underlying hu,go_sem,hx,hk]
theorem wX(b n:Nat)(t:T)(w:bD)(h:Tb bw w b t)(hn:n<6)(hh:t.here n=bw):
  Calls prog 224 #[ai (bj ⟨b,n*23,bu⟩)] w λe w'=>∃v,e=bf v/\LO w (Sp.fE t n) v w':=by
 obtain⟨i0,hi,hz0,hz1,hz2⟩:=info_parts yT;have HR:=hZ (h.Uk hn hh);have hsz:Hid ((prog.info? 175).map (·.size)=bj (sq t n).length):=hZ (by rw[En];kernel_rfl);go_in
 go_wp2_with (refine wpList_load_mid rfl 175 _ rfl b (n*23+2) rfl (sq t n) (.array 21 3) HR.v bC rfl hsz.v ?_)
 go_loopw [3,10] (λl i wr=>∃(k:Nat),i=aa az k/\k<=21/\Hid (LO w (cY t n k) l wr)) (λ_ i _=>21-(intOf i).toNat)
 case atStart=>exact⟨0,rfl,bB,LO.nil w⟩
 case round=>
  obtain⟨k,rfl,hk,R⟩:=hrel;by_cases hlt:k<21
  .have hltI:(k:Int)<21:=bB
   have hix:=II t n k hlt wr;by_cases c:t.cr n k=0
   .have HM:=hZ (RV c);rw[c]at hix;have hix':Sem.run prog (Instr.index 175 (au (sq t n).toArray) (aa IntKind.i64 k)) wr= .ok (aa az (-1)) wr:=hix;go_wp2
    go_roundw
    case rel=>exact⟨k+1,by go_num,bB,by rw[HM.v];exact R⟩
    case measure=>simp[intOf];omega
   .have HM:=hZ (OT c);obtain⟨x,hx⟩:=nJ (t.cr n k-1);rw[hx]at HM;rw[show(t.cr n k:Int)-1=(x:Int)by omega]at hix;have hne:=wa x;obtain⟨a,cap,hv⟩:=gJ R.own;rw[hv];have HV:=hZ hv;have hlm:=OS t n k;generalize hN:(cY t n k).length=N at*;have HN:=hZ hN;go_wp2_with (at_builtin;refine wpList_append_lies _ rfl _ _ 46 (by rfl) w.heap.size 3 i0 (aa .i64 0) 1 8 Tryz.underlying46 hi hz0 hz1 hz2 rfl bE (aj a N cap) N (rowOf (cY t n k)) (by rfl) (by rw[<-HV.v,<-HN.v];exact R.own.alloc _) ⟨wr.heap.size,0,bu⟩ 1 1 [aa az x] (by rfl) rfl (cell_one_new _ _ _) (by simp[Value.oneCell']) bE (by unfold maxLen;omega) bB (by have:=R.cZ.size;simp;omega) (wr.heap.size+1) (by simp) ?_;intro gg cap2 w1 hown hgrow hat hlt2;have Q1:Hid (LO w (cY t n k++[x]) (aj (bj ⟨gg,0,bu⟩) (N+1) cap2) w1):=R.more HN.v hown _ (by rw[HV.v];exact hgrow))
    go_roundw
    case rel=>exact⟨k+1,by go_num,bB,by rw[HM.v];exact Q1⟩
    case measure=>simp[intOf];omega
  .have hk21:k=21:=bB
   subst hk21;go_wp2
   go_ret
   exact⟨_,rfl,R.v⟩
def eH(t:T)(z:Int):List Nat:=if Sp.cL t z=0 then Sp.fE t z.toNat else[]
theorem D1(b:Nat)(z:Int)(t:T)(w:bD)(h:Tb bw w b t):
  Calls prog 155 #[ai (bj ⟨b,0,bu⟩),aa az z] w λe w'=>∃v,e=bf (ao #[v,bN (Sp.cL t z)])/\LO w (eH t z) v w':=by
 have HF:=hZ h;by_cases k:Sp.cL t z=0
 .have HK:=hZ k;obtain⟨n,rfl,hn,hh⟩:=Sp.oO k;have HH:=hZ hh;have hnI:(n:Int)<6:=bB
  go_in
  go_wp2_with fail
  refine sC (eY b n t _ HF.v) ?_;rintro w1 hw;subst w1;rw[HK.v,bF];go_wp2_with fail
  refine(wX b n t _ HF.v hn HH.v).mono ?_;rintro e w1 ⟨v,rfl,hL⟩;have HL:=hZ hL;go_wp2
  go_ret2
  exact⟨v,by rw[HK.v];rfl,by unfold eH;rw[aJ HK.v,hU];exact HL.v⟩
 .have HW:=hZ k;go_in
  go_wp2_with fail
  refine sC (eY b z t _ HF.v) ?_;rintro w1 hw;subst w1;rw[bM HW.v];go_wp2
  go_ret2
  exact⟨_,by rw[bM HW.v];rfl,by unfold eH;rw[aI HW.v];exact LO.nil w⟩
def kO(t:T)(k:Nat):List Nat:=(List.range k).filter t.here
theorem Nk{t:T}(h:t.here k=bw):kO t (k+1)=kO t k++[k]:=by
 unfold kO;rw[List.range_succ,List.filter_append];simp[h]
theorem QR{t:T}(h:t.here k=bA):kO t (k+1)=kO t k:=by
 unfold kO;rw[List.range_succ,List.filter_append];simp[h]
theorem Nj(t:T)(k:Nat):(kO t k).length<=k:=by
 have:=bW t.here (List.range k);simpa[kO]using this
theorem QT(b:Nat)(t:T)(w:bD)(h:Tb bw w b t):
  Calls prog 74 #[ai (bj ⟨b,0,bu⟩)] w λe w'=>∃v,e=bf v/\LO w (Sp.all t) v w':=by
 obtain⟨i0,hi,hz0,hz1,hz2⟩:=info_parts yT;have H:=hZ h;go_in
 go_wp2_with fail
 go_loopw [3,5] (λl i wr=>∃(k:Nat),i=aa az k/\k<=6/\Hid (LO w (kO t k) l wr)) (λ_ i _=>6-(intOf i).toNat)
 case atStart=>exact⟨0,rfl,bB,LO.nil w⟩
 case round=>
  obtain⟨k,rfl,hk,R⟩:=hrel;by_cases hlt:k<6
  .have hltI:(k:Int)<6:=bB
   have c0:=(H.below R.cZ).Cq k hlt;cases hth:t.here k
   .have HM:=hZ (QR hth);rw[hth]at c0;go_wp2
    go_roundw
    case rel=>exact⟨k+1,by go_num,bB,by rw[HM.v];exact R⟩
    case measure=>simp[intOf];omega
   .have HM:=hZ (Nk hth);rw[hth]at c0;obtain⟨a,cap,hv⟩:=gJ R.own;rw[hv];have HV:=hZ hv;have hlm:=Nj t k;generalize hN:(kO t k).length=N at*;have HN:=hZ hN;go_wp2_with (at_builtin;refine wpList_append_lies _ rfl _ _ 46 (by rfl) w.heap.size 3 i0 (aa .i64 0) 1 8 Tryz.underlying46 hi hz0 hz1 hz2 rfl bE (aj a N cap) N (rowOf (kO t k)) (by rfl) (by rw[<-HV.v,<-HN.v];exact R.own.alloc _) ⟨wr.heap.size,0,bu⟩ 1 1 [aa az k] (by rfl) rfl (cell_one_new _ _ _) (by simp[Value.oneCell']) bE (by unfold maxLen;omega) bB (by have:=R.cZ.size;simp;omega) (wr.heap.size+1) (by simp) ?_;intro gg cap2 w1 hown hgrow hat hlt2;have Q1:Hid (LO w (kO t k++[k]) (aj (bj ⟨gg,0,bu⟩) (N+1) cap2) w1):=R.more HN.v hown _ (by rw[HV.v];exact hgrow))
    go_roundw
    case rel=>exact⟨k+1,by go_num,bB,by rw[HM.v];exact Q1⟩
    case measure=>simp[intOf];omega
  .have hk6:k=6:=bB
   subst hk6;go_wp2
   go_ret
   exact⟨_,rfl,R.v⟩
def fF(k i:Nat):Int:=if i<k then -1 else 0
theorem T9(k:Nat):Sp.gE (fF k) k (-1)=fF (k+1):=by
 funext i;unfold Sp.gE fF;by_cases e:i=k
 .rw[aJ e,nL]
 .rw[aI e];by_cases c:i<k
  .rw[aJ c,nL]
  .rw[aI c,nK]
section
variable {ops:Array Oper}{rest:List Oper}{x:Oper}{a:Act}{w:bD}{Q:Exit->Act->bD->Prop}
theorem lO(hgd:x.guard=bu)(ho:x.op= .alloc 177)(h:wpList prog ops Q rest (a.put x.dst (ai (bj ⟨w.heap.size,0,bu⟩))) (w.alloc (bh (eU bA 0 (fF 0)) 177))):wpList prog ops Q (x::rest) a w:=
 wpList_plain hgd λ_ hK=>by
  unfold Oper.wp execOp;simp only[ho];simp[go_sem];exact hK _ _ h
theorem ye(hgd:x.guard=bu)(ho:x.op= .build 177 #[])(h:wpList prog ops Q rest (a.put x.dst (au (eU bA 0 (fF 0)))) w):wpList prog ops Q (x::rest) a w:=
 wpList_plain hgd λ_ hK=>by
  unfold Oper.wp execOp;simp only[ho];simp[go_sem];exact hK _ _ h
theorem yg(hgd:x.guard=bu)(y:Operand)(p:Int)(ho:x.op= .build 177 #[(0, .const (ar bw)),(1,y)])(hy:a.eval y=aa az p)(h:wpList prog ops Q rest (a.put x.dst (au (eU bw p (fF 0)))) w):wpList prog ops Q (x::rest) a w:=
 wpList_plain hgd λ_ hK=>by
  unfold Oper.wp execOp;simp only[ho,List.map_toArray,List.map_cons,List.map_nil,hy,BigFrame.eval_const];simp[go_sem];exact hK _ _ h
end
theorem pQ(w:bD)(cs:Array Value)(T:TypeId)(k:Nat)(hk:k<=cs.size):(w.alloc (bh cs T)).there w.heap.size 0 k:=λj hj=>by
 have h:=heap_alloc_new w (bh cs T);exact⟨by rw[bS h,Array.getElem?_eq_getElem bB];rfl,cE h _⟩
def sj(t:T):List Value:=(List.range 138).map (kP bw t)
theorem tW(t:T):(sj t).length=138:=by simp[sj]
theorem Tb.Uj{t:T}(h:Tb bw w b t):w.rangeAt b 0 (sj t):=λj v hv=>by
 have hj:j<138:=by have:=(aY.1 hv).1;rwa [tW]at this
 rw[Nat.zero_add,h.cell j bB];simp[sj,hj]at hv;rw[hv]
def lD(t:T)(k:Nat):Array Value:=eU (t.here k) (t.par k) (λp=>cw bw (t.here k) (t.cr k p))
theorem Sl(t:T)(k:Nat)(hk:k<6):(sj t).toArray.extract (k*23) (k*23+23)=lD t k:=by
 apply bL;intro i;rw[Array.getElem?_extract];by_cases hi:i<23
 .rw[aJ (by simp[tW];omega)];unfold lD;rw[oB _ _ _ i hi];have:(sj t).toArray[k*23+i]? =bj (kP bw t (k*23+i)):=by rw[List.getElem?_toArray,sj,List.getElem?_map,List.getElem?_range bB];rfl
  rw[this];by_cases e0:i=0
  .subst e0;rw[aJ rfl,Nat.add_zero,dn bw t k hk]
  .by_cases e1:i=1
   .subst e1;rw[nK,aJ rfl,dz bw t k hk]
   .rw[aI e0,aI e1];have:=dA bw t k (i-2) hk bB;rw[show k*23+2+(i-2)=k*23+i by omega]at this;rw[this]
 .rw[aI (by simp[tW];omega),aR (by unfold lD;rw[fC];omega)]
theorem IF(t:T)(k:Nat)(hk:k<6)(w:bD):Sem.run prog (Instr.index 178 (au (sj t).toArray) (aa IntKind.i64 k)) w= .ok (au (lD t k)) w:=by
 have hu:prog.underlying 178=bj (.array 6 177):=by kernel_rfl
 have h1:(k:Int)<6:=bB
 have hx:=Sl t k hk;simp at hx;simp[Instr.index,Sem.run_bind,run_underlying hu,go_sem,hx,hk]
theorem pN(t:T)(k:Nat):(lD t k).size=23:=fC _ _ _
theorem xT(t:T)(k:Nat):(lD t k).all (·.oneCell')=bw:=sV _ _ _
theorem Lw{w0:bD}(hb:Below w0.heap.size w0 w)(cs:Array Value)(T:TypeId)(hs:cs.size=23)(t:Sp.T)(k:Nat):
  ((w.alloc (bh cs T)).setCells w.heap.size 0 (lD t k).toList).cell? ⟨w.heap.size,0,bu⟩=bj (ar (t.here k))/\((w.alloc (bh cs T)).setCells w.heap.size 0 (lD t k).toList).cell? ⟨w.heap.size,1,bu⟩=bj (aa az (t.par k))/\Below w0.heap.size w0 ((w.alloc (bh cs T)).setCells w.heap.size 0 (lD t k).toList):=by
 have ht:=pQ w cs T 23 bB;have hl:(lD t k).toList.length=23:=by rw[aB,pN]
 have hin:∀j,j<23->((w.alloc (bh cs T)).setCells w.heap.size 0 (lD t k).toList).cell? ⟨w.heap.size,0+j,bu⟩=(lD t k)[j]? :=λj hj=>by
  rw[aS w.heap.size (lD t k).toList 0 _ (λi hi=>(ht i bB).1) j bB,<-aM,aW bB]
 refine⟨?_,?_,?_⟩
 .have:=hin 0 bB;rw[Nat.zero_add]at this;rw[this];exact oB _ _ _ 0 bB
 .have:=hin 1 bB;rw[Nat.zero_add]at this;rw[this];exact oB _ _ _ 1 bB
 .have f:bH w.heap.size w0 ((w.alloc (bh cs T)).setCells w.heap.size 0 (lD t k).toList):=bH.setCells _ _ (bH.cJ (hb.alloc hb.size _));have hsz:=hb.size;exact⟨f.os,f.tape,f.output,f.size,λj hj=>f.block j hj bB⟩
theorem rB(b n:Nat)(t:T)(w:bD)(h:Tb bw w b t):
  Calls prog 225 #[ai (bj ⟨b,0,bu⟩),aa az n] w λe w'=>e=bf (ar (Sp.kids t n))/\Below w.heap.size w w':=by
 have HR:=hZ h.Uj;have hsz:Hid ((prog.info? 178).map (·.size)=bj (sj t).length):=hZ (by rw[tW];kernel_rfl);have hs1:Hid (∀k,(prog.info? 177).map (·.size)=bj (lD t k).size):=hZ (λk=>by rw[pN];kernel_rfl);go_in
 go_wp2_with (refine wpList_load_mid rfl 178 _ rfl b 0 rfl (sj t) (.array 6 177) HR.v bC rfl hsz.v ?_)
 go_loopw [11] (λi wr=>∃(k:Nat),i=aa az k/\k<=6/\Hid (Below w.heap.size w wr/\∀j,j<k->Sp.uS t n j=bA)) (λi _=>6-(intOf i).toNat)
 case atStart=>exact⟨0,rfl,bB,aQ _ _,λj hj=>bB⟩
 case round=>
  obtain⟨k,rfl,hk,R⟩:=hrel;by_cases hlt:k<6
  .have hltI:(k:Int)<6:=bB
   have hix:=IF t k hlt wr;have HKB:Hid (Sp.uS t n k=(t.here k&&decide (t.par k=(n:Int)))):=hZ rfl;have NX:Hid (Sp.uS t n k=bA->∀j,j<k+1->Sp.uS t n j=bA):=hZ (λc j hj=>by
    by_cases e:j=k
    .rw[e];exact c
    .exact R.2 j bB)
   have NSP:=hZ (Lw R.1 (eU bA 0 (fF 0)) 177 (fC _ _ _) t k);have HHK:Hid (Sp.uS t n k=bw->Sp.kids t n=bw):=hZ (λc=>by unfold Sp.kids;exact List.any_eq_true.2 ⟨k,List.mem_range.2 hlt,c⟩);generalize t.here k=hh at*;generalize t.par k=pp at*;cases hh
   .go_wp2_with (first|(refine lO rfl rfl ?_)|(refine wpList_store_mid rfl 177 _ _ rfl wr.heap.size 0 (lD t k) rfl rfl (by rw[pN];exact pQ _ _ _ 23 (by rw[fC];exact aL _)) (hs1.v k) (xT t k) ?_;generalize hW:World.setCells _ _ _ _=W2;obtain⟨n0,n1⟩:W2.cell? ⟨wr.heap.size,0,bu⟩=bj _/\W2.cell? ⟨wr.heap.size,1,bu⟩=bj _:=(by rw[<-hW];exact⟨NSP.1,NSP.2.1⟩);have NB:Hid (Below w.heap.size w W2):=hZ (by rw[<-hW];exact NSP.2.2)))
    go_roundw
    case rel=>exact⟨k+1,by go_num,bB,NB.v,NX.v (by rw[HKB.v];rfl)⟩
    case measure=>simp[intOf];omega
   .by_cases hp:pp=(n:Int)
    .subst hp;go_wp2_with (first|(refine lO rfl rfl ?_)|(refine wpList_store_mid rfl 177 _ _ rfl wr.heap.size 0 (lD t k) rfl rfl (by rw[pN];exact pQ _ _ _ 23 (by rw[fC];exact aL _)) (hs1.v k) (xT t k) ?_;generalize hW:World.setCells _ _ _ _=W2;obtain⟨n0,n1⟩:W2.cell? ⟨wr.heap.size,0,bu⟩=bj _/\W2.cell? ⟨wr.heap.size,1,bu⟩=bj _:=(by rw[<-hW];exact⟨NSP.1,NSP.2.1⟩);have NB:Hid (Below w.heap.size w W2):=hZ (by rw[<-hW];exact NSP.2.2)))
     go_ret
     exact⟨da (HHK.v (by rw[HKB.v];simp)).symm,NB.v⟩
    .have hp':(pp==(n:Int))=bA:=by simp;exact hp
     go_wp2_with (first|(refine lO rfl rfl ?_)|(refine wpList_store_mid rfl 177 _ _ rfl wr.heap.size 0 (lD t k) rfl rfl (by rw[pN];exact pQ _ _ _ 23 (by rw[fC];exact aL _)) (hs1.v k) (xT t k) ?_;generalize hW:World.setCells _ _ _ _=W2;obtain⟨n0,n1⟩:W2.cell? ⟨wr.heap.size,0,bu⟩=bj _/\W2.cell? ⟨wr.heap.size,1,bu⟩=bj _:=(by rw[<-hW];exact⟨NSP.1,NSP.2.1⟩);have NB:Hid (Below w.heap.size w W2):=hZ (by rw[<-hW];exact NSP.2.2)))
     go_roundw
     case rel=>exact⟨k+1,by go_num,bB,NB.v,NX.v (by rw[HKB.v,aT hp];simp)⟩
     case measure=>simp[intOf];omega
  .have hltI:¬(k:Int)<6:=bB
   go_wp2
   go_ret
   refine⟨da ?_,R.1⟩;cases hk2:Sp.kids t n
   .rfl
   .obtain⟨j,hj,kj⟩:=List.any_eq_true.1 hk2;rw[R.2 j (by have:=List.mem_range.1 hj;omega)]at kj;cases kj
structure jZ (w W:bD)(b2 b3:Nat)(p:Int)(k:Nat):Prop where
 cZ:Below w.heap.size w W
 le:w.heap.size<=b2
 ne:b2<b3
 two:∃cs,W.heap[b2]? =bj (bh cs 177 (0,0))/\cs.size=23
 Qu:W.heap[b3]? =bj (bh (eU bw p (fF k)) 177 (0,0))
theorem jZ.set{W:bD}(h:jZ w W b2 b3 p k)(hk:k<21):jZ w (W.setCell ⟨b3,2+k,bu⟩ (aa az (-1))) b2 b3 p (k+1):=by
 have h1:=h.le;have h2:=h.ne;refine⟨h.cZ.setCell (by show _<=b3;omega) _,h1,h2,?_,?_⟩
 .obtain⟨cs,c1,c2⟩:=h.two;exact⟨cs,(dR _ _ _ _ bB).trans c1,c2⟩
 .rw[cO h.Qu,Ss _ _ _ k (-1) hk,T9]
theorem uR(b:Nat)(T:TypeId)(vs:List Value)(w:bD)(C:Array Value)(h:w.heap[b]? =bj (bh C T (0,0)))(hs:C.size=vs.length):(w.setCells b 0 vs).heap[b]? =bj (bh vs.toArray T (0,0)):=by
 obtain⟨C',h1,h2⟩:=eR b vs 0 w C h;rw[h1];congr 2;apply bL;intro i;by_cases hi:i<vs.length
 .have:=aS b vs 0 w (λj hj=>by rw[bS h,Array.getElem?_eq_getElem bB];rfl) i hi;rw[bS h1,Nat.zero_add]at this;rw[this,List.getElem?_toArray,aW hi]
 .rw[aR bB,aR (by simp;omega)]
theorem jZ.start(w:bD)(p:Int):jZ w (((w.alloc (bh (eU bA 0 (fF 0)) 177)).alloc (bh (eU bA 0 (fF 0)) 177)).setCells (w.alloc (bh (eU bA 0 (fF 0)) 177)).heap.size 0 (eU bw p (fF 0)).toList) w.heap.size (w.alloc (bh (eU bA 0 (fF 0)) 177)).heap.size p 0:=by
 have e1:(w.alloc (bh (eU bA 0 (fF 0)) 177)).heap.size=w.heap.size+1:=by simp
 have f:bH (w.alloc (bh (eU bA 0 (fF 0)) 177)).heap.size w (((w.alloc (bh (eU bA 0 (fF 0)) 177)).alloc (bh (eU bA 0 (fF 0)) 177)).setCells (w.alloc (bh (eU bA 0 (fF 0)) 177)).heap.size 0 (eU bw p (fF 0)).toList):=bH.setCells _ _ (bH.cJ (((aQ _ w).alloc (aL _) _).alloc (by simp) _));refine⟨⟨f.os,f.tape,f.output,f.size,λj hj=>f.block j hj bB⟩,aL _,bB,⟨_,?_,fC bA 0 (fF 0)⟩,?_⟩
 .rw[nA _ _ _ _ _ bB];rw[Below.heap_alloc _ _ _ bB];exact heap_alloc_new w _
 .have:=uR (w.alloc (bh (eU bA 0 (fF 0)) 177)).heap.size 177 (eU bw p (fF 0)).toList ((w.alloc (bh (eU bA 0 (fF 0)) 177)).alloc (bh (eU bA 0 (fF 0)) 177)) _ (heap_alloc_new _ _) (by rw[fC,sU]);rw[this]
theorem jZ.range{W:bD}(h:jZ w W b2 b3 p k):W.rangeAt b3 0 (eU bw p (fF k)).toList:=λj v hv=>by
 rw[Nat.zero_add,bS h.Qu,<-aM,hv]
theorem jZ.there{w W:bD}{b2 b3:Nat}{p:Int}{k:Nat}(h:jZ w W b2 b3 p k)(n:Nat)(hn:n=23):W.there b2 0 n:=by
 obtain⟨cs,c1,c2⟩:=h.two;intro j hj;exact⟨by rw[bS c1,Array.getElem?_eq_getElem bB];rfl,cE c1 _⟩
theorem jZ.Uu(w:bD)(p:Int):jZ w (((w.alloc (bh (eU bA 0 (fF 0)) 177)).alloc (bh (eU bA 0 (fF 0)) 177)).setCells (w.heap.size+1) 0 (eU bw p (fF 0)).toList) w.heap.size (w.heap.size+1) p 0:=by
 have:=jZ.start w p;rw[show(w.alloc (bh (eU bA 0 (fF 0)) 177)).heap.size=w.heap.size+1 by simp]at this;exact this
theorem jZ.cell{w W:bD}{b2 b3:Nat}{p:Int}{k:Nat}(h:jZ w W b2 b3 p k)(hk:k<21):W.cell? ⟨b3,2+k,bu⟩=bj (aa az (fF k k)):=by
 rw[bS h.Qu,oB _ _ _ (2+k) bB,nK,nK,show 2+k-2=k by omega]
theorem jZ.fz{W:bD}(h:jZ w W b2 b3 p k)(o:Nat):W.frozen? ⟨b3,o,bu⟩=bA:=cE h.Qu o
theorem jZ.done{W:bD}(h:jZ w W b2 b3 p k)(cs:List Value)(hc:cs.length=23):(W.setCells b2 0 cs).rangeAt b2 0 cs/\Below w.heap.size w (W.setCells b2 0 cs):=by
 refine⟨World.rangeAt_setCells_same _ _ _ _ (h.there _ hc),?_⟩;have f:bH b2 W (W.setCells b2 0 cs):=bH.setCells _ _ (bH.refl _ _);exact f.below h.cZ h.le h.cZ.size
theorem vh(p:Int)(w:bD):
  Calls prog 161 #[aa az p] w λe w'=>e=bf (au (eU bw p (fF 21)))/\Below w.heap.size w w':=by
 have hs1:Hid ((prog.info? 177).map (·.size)=bj (eU bw p (fF 0)).size):=hZ (by rw[fC];kernel_rfl);have hs2:Hid ((prog.info? 177).map (·.size)=bj (eU bw p (fF 21)).toList.length):=hZ (by rw[sU];kernel_rfl);have hs3':Hid ((prog.info? 177).map (·.size)=bj (eU bw p (fF 21)).size):=hZ (by rw[fC];kernel_rfl);have S0:=hZ (jZ.Uu w p);go_in
 go_wp2_with (first|(refine lO rfl rfl ?_)|(refine yg rfl _ p rfl rfl ?_)|(refine wpList_store_mid rfl 177 _ _ rfl _ 0 (eU bw p (fF 0)) rfl rfl (by rw[fC];exact pQ _ _ _ 23 (by rw[fC];exact aL _)) hs1.v (sV _ _ _) ?_))
 refine cM (λW=>jZ w W w.heap.size (w.heap.size+1) p 0) S0.v ?_;intro W1 h1;have S1:=hZ h1;generalize w.heap.size+1=b3 at*;obtain⟨b2,hb2⟩:=nJ (w.heap.size);rw[hb2]at S1|-;have HB2:=hZ hb2;go_loopw [7] (λi wr=>∃(k:Nat),i=aa az k/\k<=21/\Hid (jZ w wr b2 b3 p k)) (λi _=>21-(intOf i).toNat)
 case atStart=>exact⟨0,rfl,bB,S1⟩
 case round=>
  obtain⟨k,rfl,hk,S⟩:=hrel;by_cases hlt:k<21
  .have hltI:(k:Int)<21:=bB
   have c0:=S.cell hlt;have cf:=S.fz;go_wp2
   go_roundw
   case rel=>exact⟨k+1,by go_num,bB,S.set hlt⟩
   case measure=>simp[intOf];omega
  .have hk21:k=21:=bB
   subst hk21;obtain⟨A,hA⟩:=nJ (eU bw p (fF 21));have hl:Hid (A.toList.length=23):=hZ (by rw[<-hA];exact sU _ _ _);have hr:Hid (wr.rangeAt b3 0 A.toList):=hZ (by rw[<-hA];exact S.range);have h1:Hid (A.all (·.oneCell')=bw):=hZ (by rw[<-hA];exact sV _ _ _);have ht:Hid (wr.there b2 0 A.size):=hZ (S.there _ (by rw[<-hA];exact fC _ _ _));have hD:=hZ (S.done A.toList hl.v);rw[hA]at hs2;have hs3:Hid ((prog.info? 177).map (·.size)=bj A.size):=hZ (by rw[<-hA];exact hs3'.v);have HA:=hZ hA;go_wp2_with (first|(refine wpList_load_mid rfl 177 _ rfl b3 0 rfl A.toList _ hr.v Tryz.underlying177 rfl hs2.v ?_;rw[Array.toArray_toList])|(refine wpList_store_mid rfl 177 _ _ rfl b2 0 A rfl rfl ht.v hs3.v h1.v ?_))
   have hld:=run_loadVar_mid (P:=prog) (wr.setCells b2 0 A.toList) b2 0 177 A.toList _ hD.1 Tryz.underlying177 rfl hs2.v;rw[Array.toArray_toList]at hld;generalize hW:World.setCells _ _ _ _=W2 at*;refine bodyPost_ret (v:=au A) (by simp[results,Tryz.results161,Act.put,asAddr,hld]) rfl ⟨by rw[HA.v],hD.2⟩
theorem Lv(q:Nat)(hq:q<21):fF 21 q=cw bw bw ((λ_=>0) q):=by unfold fF;rw[aJ hq];rfl
def Hs:Array Value:=((List.range 158).map λi=>if i<138/\i%23=0 then ar bA else aa .i64 0).toArray
theorem Vg:Tryz.zeroCells181=Hs:=by kernel_rfl
theorem Sz:Hs.size=158:=by simp[Hs]
theorem CE(i:Nat)(h:i<158):Hs[i]? =bj (if i<138/\i%23=0 then ar bA else aa .i64 0):=by simp[Hs,h]
def tz(c:Bool):T:=⟨λ_=>bA,λ_=>0,λ_ _=>0,λ_=>if c then 1 else 0⟩
theorem Su{c:Bool}(h:w.heap[b]? =bj (bh Hs (Vy c) (0,0))):Tb c w b (tz c):=by
 refine⟨⟨_,h,Sz⟩,gw (λm hm=>?_) (λm hm=>?_) (λm q hm hq=>?_) (λy hy=>?_)⟩
 .rw[dn c _ m hm,bS h,CE _ bB,nL];rfl
 .rw[dz c _ m hm,bS h,CE _ bB,nK];rfl
 .rw[dA c _ m q hm hq,bS h,CE _ bB,nK];cases c<;>rfl
 .rw[dV,bS h,CE _ bB,nK];cases c<;>rfl
def tk(k:Nat):T:=⟨λn=>decide (n=0),λn=>if n=0 then -1 else 0,λ_ _=>0,λx=>if x<k then 0 else 1⟩
theorem Ve(h:Tb bw w b (tk k))(hk:k<20):Tb bw (w.setCell ⟨b,138+k,bu⟩ (aa az (-1))) b (tk (k+1)):=by
 have:=h.setOf k 0 hk;refine this.congr (gw (λm hm=>by rw[dn bw _ m hm,dn bw _ m hm];rfl) (λm hm=>by rw[dz bw _ m hm,dz bw _ m hm];rfl) (λm q hm hq=>by rw[dA bw _ m q hm hq,dA bw _ m q hm hq];rfl) (λy hy=>?_));unfold tk Sp.uA;grind
theorem Uy(h:Tb bw w b (tk 20)):Tb bw w b Sp.t0:=
 h.congr (gw (λm hm=>by rw[dn bw _ m hm,dn bw _ m hm];rfl) (λm hm=>by rw[dz bw _ m hm,dz bw _ m hm];rfl) (λm q hm hq=>by rw[dA bw _ m q hm hq,dA bw _ m q hm hq];rfl) (λy hy=>by rw[dV,dV];unfold tk;simp only[aJ hy];rfl))
theorem Pt(h:Tb bw w b (tz bw)):Tb bw (w.setCells b 0 (eU bw (-1) (fF 21)).toList) b (tk 0):=by
 have:=h.xR 0 bB bw (-1) (fF 21) (λ_=>0) Lv;refine this.congr (gw (λm hm=>?_) (λm hm=>?_) (λm q hm hq=>?_) (λy hy=>?_))
 .rw[dn bw _ m hm,dn bw _ m hm];by_cases e:m=0
  .subst e;rfl
  .simp[tk,tz,Sp.nT,e]
 .rw[dz bw _ m hm,dz bw _ m hm];by_cases e:m=0
  .subst e;rfl
  .simp[tk,tz,Sp.gE,e]
 .rw[dA bw _ m q hm hq,dA bw _ m q hm hq];by_cases e:m=0
  .subst e;rfl
  .simp[tk,tz,Sp.nT,e]
 .rw[dV,dV];rfl
theorem sM(w:bD):Calls prog 83 #[] w λe w'=>e=bf (ai (bj ⟨w.heap.size,0,bu⟩))/\Tb bw w' w.heap.size Sp.t0/\Below w.heap.size w w'/\w.heap.size<w'.heap.size:=by
 have Z:Hid (Tb bw (w.alloc (bh Tryz.zeroCells181 181)) w.heap.size (tz bw)/\Below w.heap.size w (w.alloc (bh Tryz.zeroCells181 181))):=hZ (by
  rw[Vg];exact⟨Su (heap_alloc_new w _),(aQ _ _).alloc (aL _) _⟩)
 go_in
 go_wp2
 refine cM (λW=>Tb bw W w.heap.size (tz bw)/\Below w.heap.size w W) Z.v ?_;rintro W1 ⟨h1,hb1⟩;have S1:=hZ (aK h1 hb1);obtain⟨b,hb⟩:=nJ (w.heap.size);rw[hb]at S1|-;have HB:=hZ hb;go_region_held3 (λ_=>True) (trivial) ((go_at_call 161;refine sC (vh _ _) ?_;rintro w2 hb2;have T2:Hid (Tb bw w2 b (tz bw)/\Below b w w2):=hZ ⟨S1.1.drew.below hb2,S1.2.drew.trans (hb2.mono (bI S1.1.lt))⟩;obtain⟨A,hA⟩:=nJ (eU bw (-1) (fF 21));have HA:=hZ hA;have hAs:A.size=23:=(by rw[<-hA];exact fC _ _ _);have st:=T2.1.store 0 bB bw (-1) (fF 21);rw[Nat.zero_mul]at st;rw[hA]at st|-))
 generalize hW2:World.setCells _ _ _ _=W2;have S2:Hid (Tb bw W2 b (tk 0)/\Below b w W2):=hZ (by
  have f:bH b w2 W2:=by rw[<-hW2];exact bH.setCells _ _ (bH.refl _ _)
  refine⟨?_,f.below T2.2 (aL _) (bI T2.1.lt)⟩;rw[<-hW2,<-HA.v];exact Pt T2.1)
 go_wp2
 go_loopw [10] (λi wr=>∃(k:Nat),i=aa az k/\k<=20/\Hid (Tb bw wr b (tk k)/\Below b w wr)) (λi _=>20-(intOf i).toNat)
 case atStart=>exact⟨0,rfl,bB,S2⟩
 case round=>
  obtain⟨k,rfl,hk,S⟩:=hrel;by_cases hlt:k<20
  .have hltI:(k:Int)<20:=bB
   have c0:=S.1.Tj k hlt;have cf:=S.1.frozen;go_wp2
   go_roundw
   case rel=>exact⟨k+1,by go_num,bB,Ve S.1 hlt,S.2.setCell (by show b<=b;omega) _⟩
   case measure=>simp[intOf];omega
  .have hk20:k=20:=bB
   subst hk20;go_wp2
   go_ret
   rw[HB.v];exact⟨rfl,Uy S.1,S.2,S.1.lt⟩
theorem JV(b:Nat)(z:Int)(t:T)(w:bD)(h:Tb bw w b t)(k:Sp.cL t z≠0):
  Calls prog 140 #[ai (bj ⟨b,0,bu⟩),aa az z] w λe w'=>e=bf (ao #[aa az 0,bN (Sp.cL t z)])/\w'=w:=by
 have HF:=hZ h;have HW:=hZ k;go_in
 go_wp2_with fail
 refine sC (eY b z t _ HF.v) ?_;rintro w1 hw;subst w1;rw[bM HW.v];go_wp2
 go_ret2
 rw[bM HW.v];exact⟨rfl,rfl⟩
theorem xk(b n:Nat)(t:T)(d:Nat->Nat)(w:bD)(h:Tb bw w b t)(hT:Sp.Tree t d)(hn:n<6)(hh:t.here n=bw)(hl:4<=(Sp.W t n).length):
  Calls prog 140 #[ai (bj ⟨b,0,bu⟩),aa az n] w λe w'=>e=bf (ao #[aa az 0,bN 7])/\w'=w:=by
 have HF:=hZ h;have HT:=hZ (aK hT hh);have HK:=hZ (Sp.jT hn hh);go_in
 go_wp2_with fail
 refine sC (eY b n t _ HF.v) ?_;rintro w1 hw;subst w1;rw[HK.v,bF];go_wp2_with fail
 refine sC (pH b n t d _ HF.v HT.1 hn HT.2) ?_;rintro w1 hw;subst w1;generalize (Sp.W t n).length=L at*;have hlI:(4:Int)<=(L:Int):=bB
 go_wp2
 go_ret2
 exact⟨rfl,rfl⟩
theorem xl(b n:Nat)(t:T)(d:Nat->Nat)(w:bD)(h:Tb bw w b t)(hT:Sp.Tree t d)(hn:n<6)(hh:t.here n=bw)(hl:(Sp.W t n).length<4):
  Calls prog 140 #[ai (bj ⟨b,0,bu⟩),aa az n] w λe w'=>
   (∃k:Nat,k<6/\t.here k=bA/\(∀j,j<k->t.here j=bw)/\e=bf (ao #[aa az k,bN 0])/\Tb bw w' b {t with here:=Sp.nT t.here k bw,par:=Sp.gE t.par k n,cr:=λa q=>if a=k then 0 else t.cr a q}/\bH b w w')\/((∀j,j<6->t.here j=bw)/\e=bf (ao #[aa az 0,bN 4])/\w'=w):=by
 have HF:=hZ h;have HT:=hZ (aK hT hh);have HK:=hZ (Sp.jT hn hh);go_in
 go_wp2_with fail
 refine sC (eY b n t _ HF.v) ?_;rintro w1 hw;subst w1;rw[HK.v,bF];go_wp2_with fail
 refine sC (pH b n t d _ HF.v HT.1 hn HT.2) ?_;rintro w1 hw;subst w1;generalize (Sp.W t n).length=L at*;have hlI:decide ((4:Int)<=(L:Int))=bA:=by simp;omega
 go_wp2_with fail
 go_loopw [19] (λi wr=>∃(k:Nat),i=aa az k/\k<=6/\wr=w/\Hid (∀j,j<k->t.here j=bw)) (λi _=>6-(intOf i).toNat)
 case atStart=>exact⟨0,rfl,bB,rfl,λj hj=>bB⟩
 case round=>
  obtain⟨k,rfl,hk,hw,HN⟩:=hrel;subst wr;by_cases hlt:k<6
  .have hltI:(k:Int)<6:=bB
   have c0:=HF.Cq k hlt;cases hkh:t.here k
   .have HKH:=hZ hkh;rw[hkh]at c0;go_wp2_with fail
    go_region_held3 (λ_=>True) (trivial) ((go_at_call 161;refine sC (vh _ _) ?_;rintro w2 hb2;have T2:Hid (Tb bw w2 b t/\bH b w w2):=hZ ⟨HF.drew.below hb2,(bH.refl b w).drew.trans (bH.cJ hb2)⟩;obtain⟨A,hA⟩:=nJ (eU bw (n:Int) (fF 21));have HA:=hZ hA;have hAs:A.size=23:=(by rw[<-hA];exact fC _ _ _);have st:=T2.1.store k hlt bw (n:Int) (fF 21);rw[hA]at st|-))
    generalize hW2:World.setCells _ _ _ _=W2;have S2:Hid (Tb bw W2 b {t with here:=Sp.nT t.here k bw,par:=Sp.gE t.par k n,cr:=λa q=>if a=k then 0 else t.cr a q}/\bH b w W2):=hZ (by
     refine⟨?_,by rw[<-hW2];exact bH.setCells _ _ T2.2⟩;rw[<-hW2,<-HA.v];exact T2.1.xR k hlt bw n (fF 21) (λ_=>0) Lv)
    go_wp2
    go_ret2
    exact .inl ⟨k,hlt,HKH.v,HN.v,rfl,S2.1,S2.2⟩
   .have HKH:=hZ hkh;rw[hkh]at c0;go_wp2
    go_roundw
    case rel=>exact⟨k+1,by go_num,bB,by first|rfl|trivial,λj hj=>by
     by_cases c:j=k
     .rw[c];exact HKH.v
     .exact HN.v j bB⟩
    case measure=>simp[intOf];omega
  .have hltI:¬(k:Int)<6:=bB
   go_wp2
   go_ret2
   exact .inr ⟨λj hj=>HN.v j bB,rfl,rfl⟩
theorem vW(b:Nat)(z:Int)(t:T)(d:Nat->Nat)(w:bD)(h:Tb bw w b t)(hI:Sp.Inv t d):
  Calls prog 140 #[ai (bj ⟨b,0,bu⟩),aa az z] w λe w'=>e=bf (ao #[aa az (Sp.nW t z:Int),bN (Sp.je t z)])/\Tb bw w' b (Sp.fZ t z)/\bH b w w':=by
 by_cases k:Sp.cL t z=0
 .obtain⟨n,rfl,hn,hh⟩:=Sp.oO k;by_cases hl:4<=(Sp.W t n).length
  .have e1:Sp.je t n=7:=by unfold Sp.je;rw[aJ k,aJ hl]
   have e2:Sp.nW t n=0:=by unfold Sp.nW;rw[e1];rfl
   have e3:Sp.fZ t n=t:=by unfold Sp.fZ;rw[e1];rfl
   refine sC (xk b n t d w h hI.tree hn hh hl) ?_;rintro w' rfl;rw[e1,e2,e3];exact⟨rfl,h,bH.refl _ _⟩
  .refine(xl b n t d w h hI.tree hn hh bB).mono ?_;rintro e w' (⟨m,hm,hmh,hml,rfl,ht,hf⟩|⟨hall,rfl,rfl⟩)
   .have ef:=Sp.Ob hm hmh hml;have e1:Sp.je t n=0:=by unfold Sp.je;rw[aJ k,aI hl,ef,nK]
    have e2:Sp.nW t n=m:=by unfold Sp.nW;rw[e1,aJ rfl,ef]
    rw[e1,e2];refine⟨rfl,?_,hf⟩;unfold Sp.fZ;rw[e1,aJ rfl,ef];refine ht.congr (gw (λa ha=>by rw[dn bw _ a ha,dn bw _ a ha]) (λa ha=>by rw[dz bw _ a ha,dz bw _ a ha]) (λa q ha hq=>?_) (λy hy=>by rw[dV,dV]));rw[dA bw _ a q ha hq,dA bw _ a q ha hq];by_cases c:a=m
    .subst c;simp[hI.dead ha hq hmh]
    .simp[c]
   .have ef:=Sp.Od hall;have e1:Sp.je t n=4:=by unfold Sp.je;rw[aJ k,aI hl,ef,aJ rfl]
    have e2:Sp.nW t n=0:=by unfold Sp.nW;rw[e1];rfl
    have e3:Sp.fZ t n=t:=by unfold Sp.fZ;rw[e1];rfl
    rw[e1,e2,e3];exact⟨rfl,h,bH.refl _ _⟩
 .have e1:Sp.je t z=Sp.cL t z:=by unfold Sp.je;rw[aI k]
  have e2:Sp.nW t z=0:=by unfold Sp.nW;rw[e1,aI k]
  have e3:Sp.fZ t z=t:=by unfold Sp.fZ;rw[e1,aI k]
  refine sC (JV b z t w h k) ?_;rintro w' rfl;rw[e1,e2,e3];exact⟨rfl,h,bH.refl _ _⟩
theorem Iy(b:Nat)(z:Int)(t:T)(w:bD)(h:Tb bw w b t)(k:Sp.cL t z≠0):
  Calls prog 153 #[ai (bj ⟨b,0,bu⟩),aa az z] w λe w'=>e=bf (bN (Sp.cL t z))/\w'=w:=by
 have HF:=hZ h;have HW:=hZ k;go_in
 go_wp2_with fail
 refine sC (eY b z t _ HF.v) ?_;rintro w1 hw;subst w1;rw[bM HW.v];go_wp2
 go_ret
 rw[bM HW.v];exact⟨rfl,rfl⟩
theorem Kk(b:Nat)(t:T)(w:bD)(h:Tb bw w b t)(k:Sp.cL t 0=0):
  Calls prog 153 #[ai (bj ⟨b,0,bu⟩),aa az 0] w λe w'=>e=bf (bN 5)/\w'=w:=by
 have HF:=hZ h;have HK:=hZ k;go_in
 go_wp2_with fail
 refine sC (eY b 0 t _ HF.v) ?_;rintro w1 hw;subst w1;rw[HK.v,bF];go_wp2
 go_ret
 exact⟨rfl,rfl⟩
theorem Kj(b n:Nat)(t:T)(w:bD)(h:Tb bw w b t)(n0:n≠0)(hn:n<6)(hh:t.here n=bw):
  Calls prog 153 #[ai (bj ⟨b,0,bu⟩),aa az n] w λe w'=>
   ((Sp.fE t n≠[]\/Sp.kids t n=bw)/\e=bf (bN 5)/\Below w.heap.size w w')\/(Sp.fE t n=[]/\Sp.kids t n=bA/\e=bf (bN 0)/\Tb bw w' b {t with here:=Sp.nT t.here n bA,par:=Sp.gE t.par n 0,cr:=λa q=>if a=n then 0 else t.cr a q}/\bH b w w'):=by
 have HF:=hZ h;have HH:=hZ hh;have HK:=hZ (Sp.jT hn hh);have nz:((n:Int)==0)=bA:=by simp;omega
 have hnI:(n:Int)<6:=bB
 have hs0:Hid ((prog.info? 177).map (·.size)=bj (eU bA 0 (fF 0)).size):=hZ (by rw[fC];kernel_rfl);go_in
 go_wp2_with fail
 refine sC (eY b n t _ HF.v) ?_;rintro w1 hw;subst w1;rw[HK.v,bF];go_wp2_with fail
 refine(wX b n t _ HF.v hn HH.v).mono ?_;rintro e w1 ⟨v,rfl,hL⟩;obtain⟨a,cap,hv⟩:=gJ hL.own;subst hv;have B1:=hZ hL.cZ;by_cases c:Sp.fE t n=[]
 .have HC:=hZ c;rw[c];go_wp2_with fail
  refine sC (rB b n t _ (HF.below B1.v)) ?_;rintro w2 hb2;have B2:=hZ (B1.trans (hb2.mono B1.size));cases hkd:Sp.kids t n
  .have HKD:=hZ hkd;have T2:=hZ (HF.below B2.v);have S2:Hid (Tb bw (w2.setCells b (n*23) (eU bA 0 (fF 0)).toList) b {t with here:=Sp.nT t.here n bA,par:=Sp.gE t.par n 0,cr:=λa q=>if a=n then 0 else t.cr a q}/\bH b w (w2.setCells b (n*23) (eU bA 0 (fF 0)).toList)):=hZ ⟨T2.xR n hn bA 0 (fF 0) (λ_=>0) (λq hq=>by unfold fF;rw[nK];rfl),bH.setCells _ _ (bH.cJ B2.v)⟩;go_wp2_with (first|(refine ye rfl rfl ?_)|(refine wpList_store_mid rfl 177 _ _ rfl b (n*23) (eU bA 0 (fF 0)) rfl rfl (T2.there n hn _ (fC _ _ _)) hs0.v (sV _ _ _) ?_;generalize hW:World.setCells _ _ _ _=W2;have S3:Hid (Tb bw W2 b {t with here:=Sp.nT t.here n bA,par:=Sp.gE t.par n 0,cr:=λa q=>if a=n then 0 else t.cr a q}/\bH b w W2):=hZ (by rw[<-hW];exact S2.v)))
   go_ret
   exact .inr ⟨HC.v,HKD.v,rfl,S3.1,S3.2⟩
  .have HKD:=hZ hkd;go_wp2
   go_ret
   exact .inl ⟨.inr HKD.v,rfl,B2.v⟩
 .have HC:=hZ c;have hlen:0<(Sp.fE t n).length:=List.length_pos_iff.2 c;generalize (Sp.fE t n).length=L at*;have hlI:(0:Int)<(L:Int):=bB
  go_wp2
  go_ret
  exact .inl ⟨.inl HC.v,rfl,B1.v⟩
theorem NR(b:Nat)(z:Int)(t:T)(w:bD)(h:Tb bw w b t):
  Calls prog 153 #[ai (bj ⟨b,0,bu⟩),aa az z] w λe w'=>e=bf (bN (Sp.jo t z))/\Tb bw w' b (Sp.gx t z)/\bH b w w':=by
 by_cases k:Sp.cL t z=0
 .obtain⟨n,rfl,hn,hh⟩:=Sp.oO k;by_cases n0:n=0
  .subst n0;have e1:Sp.jo t ((0:Nat):Int)=5:=by unfold Sp.jo;rw[aJ k,aJ (.inl rfl)]
   have e3:Sp.gx t ((0:Nat):Int)=t:=by unfold Sp.gx;rw[e1];rfl
   refine(Kk b t w h k).mono ?_;rintro e w' ⟨rfl,rfl⟩;rw[e1,e3];exact⟨rfl,h,bH.refl _ _⟩
  .refine(Kj b n t w h n0 hn hh).mono ?_;rintro e w' (⟨hc,rfl,hb⟩|⟨hm,hk,rfl,ht,hf⟩)
   .have e1:Sp.jo t n=5:=by unfold Sp.jo;rw[aJ k,hU,aJ (.inr hc)]
    have e3:Sp.gx t n=t:=by unfold Sp.gx;rw[e1];rfl
    rw[e1,e3];exact⟨rfl,h.below hb,bH.cJ hb⟩
   .have e1:Sp.jo t n=0:=by
     unfold Sp.jo;rw[aJ k,hU,aI];grind
    rw[e1];refine⟨rfl,?_,hf⟩;unfold Sp.gx;rw[e1,aJ rfl,hU];refine ht.congr (gw (λa ha=>by rw[dn bw _ a ha,dn bw _ a ha]) (λa ha=>by rw[dz bw _ a ha,dz bw _ a ha]) (λa q ha hq=>?_) (λy hy=>by rw[dV,dV]));rw[dA bw _ a q ha hq,dA bw _ a q ha hq];by_cases c:a=n
    .subst c;simp[Sp.D0 hm q hq]
    .simp[c]
 .have e1:Sp.jo t z=Sp.cL t z:=by unfold Sp.jo;rw[aI k]
  have e3:Sp.gx t z=t:=by unfold Sp.gx;rw[e1,aI k]
  refine(Iy b z t w h k).mono ?_;rintro e w' ⟨rfl,rfl⟩;rw[e1,e3];exact⟨rfl,h,bH.refl _ _⟩
namespace Sp
theorem OO{t t':T}(h:∀p,t'.cr n p=t.cr n p):low t' n=low t n:=by unfold low u6;grind
theorem Jk{t t':T}(h:∀p,t'.cr n p=t.cr n p):jb t' n x=jb t n x:=by unfold jb wU;grind
theorem Inv.pid{t:T}(h:Inv t d)(hn:n<6)(he:∃p,p<21/\t.cr n p=x+1):jb t n x≠0/\jb t n x<21/\t.cr n (jb t n x)=x+1:=by
 obtain⟨p,hp,e⟩:=he;unfold jb;cases hf:(List.range 21).find? (wU t n x)with
 |none=>
  have:=List.find?_eq_none.1 hf p (by simpa using hp);exact aZ (by unfold wU;simp[e]) this
 |some k=>
  have:=mu hf;have hk:t.cr n k=x+1:=by have:=this.2.1;unfold wU at this;simpa using this
  refine⟨λc=>?_,this.1,hk⟩;have c':k=0:=c;rw[c',h.sA n hn]at hk;omega
def oa(t:T)(L:List Nat)(n y:Nat):T:={Ee t L y with of:=uA t.of y (n+1)}
def mR(t:T)(L:List Nat)(y:Nat):T:={Ag t L y with of:=uA t.of y 0}
end Sp
section
variable {w:bD}{b:Nat}{t:T}
theorem KM(h:Tb bw w b t)(hy:y<20):Tb bw (w.setCell ⟨b,138+y,bu⟩ (aa az (n:Int))) b (Sp.oa t [] n y):=by
 have:=h.setOf y (n+1) hy;rw[show co bw (n+1)=(n:Int)by unfold co;simp]at this;exact this.congr (gw (λm hm=>by rw[dn bw _ m hm,dn bw _ m hm];rfl) (λm hm=>by rw[dz bw _ m hm,dz bw _ m hm];rfl) (λm q hm hq=>by rw[dA bw _ m q hm hq,dA bw _ m q hm hq];simp[Sp.oa,Sp.Ee]) (λz hz=>by rw[dV,dV];rfl))
theorem TQ(h:Tb bw w b (Sp.oa t L n y))(hm:m<6)(hh:t.here m=bw)(hp:Sp.low t m<21):Tb bw (w.setCell ⟨b,m*23+2+Sp.low t m,bu⟩ (aa az (y:Int))) b (Sp.oa t (L++[m]) n y):=by
 have:=h.Mf m (Sp.low t m) (y+1) hm hp;rw[show cw bw ((Sp.oa t L n y).here m) (y+1)=(y:Int)by rw[show(Sp.oa t L n y).here m=t.here m from rfl,hh];unfold cw;simp]at this;refine this.congr (gw (λa ha=>by rw[dn bw _ a ha,dn bw _ a ha];rfl) (λa ha=>by rw[dz bw _ a ha,dz bw _ a ha];rfl) (λa q ha hq=>?_) (λz hz=>by rw[dV,dV];rfl));rw[dA bw _ a q ha hq,dA bw _ a q ha hq];have e:(Sp.oa t (L++[m]) n y).cr a q=(Mz (Sp.oa t L n y) m (Sp.low t m) (y+1)).cr a q:=by
  show(if a∈L++[m]/\q=Sp.low t a then y+1 else t.cr a q)=if a=m/\q=Sp.low t m then y+1 else(if a∈L/\q=Sp.low t a then y+1 else t.cr a q);grind
 rw[e];rfl
theorem Jh(h:Tb bw w b t)(hy:y<20):Tb bw (w.setCell ⟨b,138+y,bu⟩ (aa az (-1))) b (Sp.mR t [] y):=by
 have:=h.setOf y 0 hy;exact this.congr (gw (λm hm=>by rw[dn bw _ m hm,dn bw _ m hm];rfl) (λm hm=>by rw[dz bw _ m hm,dz bw _ m hm];rfl) (λm q hm hq=>by rw[dA bw _ m q hm hq,dA bw _ m q hm hq];simp[Sp.mR,Sp.Ag]) (λz hz=>by rw[dV,dV];rfl))
theorem R7{p:Nat}(h:Tb bw w b (Sp.mR t L y))(hm:m<6)(hh:t.here m=bw)(hp:p<21)(e1:t.cr m p=y+1)(e2:∀q,q<21->t.cr m q=y+1->q=p):Tb bw (w.setCell ⟨b,m*23+2+p,bu⟩ (aa az (-1))) b (Sp.mR t (L++[m]) y):=by
 have:=h.Mf m p 0 hm hp;rw[show cw bw ((Sp.mR t L y).here m) 0= -1 by rw[show(Sp.mR t L y).here m=t.here m from rfl,hh];rfl]at this;refine this.congr (gw (λa ha=>by rw[dn bw _ a ha,dn bw _ a ha];rfl) (λa ha=>by rw[dz bw _ a ha,dz bw _ a ha];rfl) (λa q ha hq=>?_) (λz hz=>by rw[dV,dV];rfl));rw[dA bw _ a q ha hq,dA bw _ a q ha hq];have e:(Sp.mR t (L++[m]) y).cr a q=(Mz (Sp.mR t L y) m p 0).cr a q:=by
  show(if a∈L++[m]/\t.cr a q=y+1 then 0 else t.cr a q)=if a=m/\q=p then 0 else(if a∈L/\t.cr a q=y+1 then 0 else t.cr a q);grind
 rw[e];rfl
end
theorem wS(b:Nat)(z x:Int)(t:T)(w:bD)(h:Tb bw w b t)(k:Sp.jr t z x≠0):
  Calls prog 142 #[ai (bj ⟨b,0,bu⟩),aa az z,aa az x] w λe w'=>e=bf (ao #[aa az 0,bN (Sp.jr t z x)])/\w'=w:=by
 have HF:=hZ h;have HW:=hZ k;go_in
 go_wp2_with fail
 refine sC (lg b z x t _ HF.v) ?_;rintro w1 hw;subst w1;rw[bM HW.v];go_wp2
 go_ret2
 rw[bM HW.v];exact⟨rfl,rfl⟩
theorem wR(b n y:Nat)(t:T)(w:bD)(h:Tb bw w b t)(k:Sp.jr t n y=0)(hy:y<20)(ho:t.of y≠0):
  Calls prog 142 #[ai (bj ⟨b,0,bu⟩),aa az n,aa az y] w λe w'=>e=bf (ao #[aa az 0,bN 3])/\w'=w:=by
 have HF:=hZ h;have HK:=hZ k;have c:=h.Qh y hy;have hyI:(y:Int)<20:=bB
 obtain⟨v,hv⟩:=nJ ((t.of y:Int)-1);have v0:(v== -1)=bA:=by simp;omega
 rw[hv]at c;go_in
 go_wp2_with fail
 refine sC (lg b n y t _ HF.v) ?_;rintro w1 hw;subst w1;rw[HK.v,bF];go_wp2
 go_ret2
 exact⟨rfl,rfl⟩
theorem NV(b n y:Nat)(t:T)(d:Nat->Nat)(w:bD)(h:Tb bw w b t)(hI:Sp.Inv t d)(k:Sp.jr t n y=0)(hn:n<6)(hh:t.here n=bw)(hy:y<20)(ho:t.of y=0):
  Calls prog 142 #[ai (bj ⟨b,0,bu⟩),aa az n,aa az y] w λe w'=>e=bf (ao #[aa az (vk (Sp.oa t (Sp.W t n) n y) n y),bN 0])/\Tb bw w' b (Sp.oa t (Sp.W t n) n y)/\bH b w w':=by
 have HF:=hZ h;have HI:=hZ hI;have HK:=hZ k;have HH:=hZ (aK hh ho);have c:=h.Qh y hy;rw[ho]at c;have c':w.cell? ⟨b,138+y,bu⟩=bj (aa az (-1)):=c;have cf:=h.frozen;have hyI:(y:Int)<20:=bB
 have hnI:(n:Int)<6:=bB
 have S0:Hid (Tb bw (w.setCell ⟨b,138+y,bu⟩ (aa az (n:Int))) b (Sp.oa t [] n y)/\bH b w (w.setCell ⟨b,138+y,bu⟩ (aa az (n:Int)))):=hZ ⟨KM h hy,(bH.refl b w).setCell _ _⟩;go_in
 go_wp2_with fail
 refine sC (lg b n y t _ HF.v) ?_;rintro w1 hw;subst w1;rw[HK.v,bF];go_wp2_with fail
 refine cM (λW=>Tb bw W b (Sp.oa t [] n y)/\bH b w W) S0.v ?_;rintro W1 ⟨h1,f1⟩;have S1:=hZ (aK h1 f1);go_loopw [9] (λi wr=>∃(z:Int) (L:List Nat),i=aa az z/\Hid (Tb bw wr b (Sp.oa t L n y)/\bH b w wr/\L++Sp.W t z=Sp.W t n/\(z= -1\/∃m:Nat,z=m/\m<6/\t.here m=bw))) (λi _=>(Sp.W t (intOf i)).length)
 case atStart=>exact⟨n,[],rfl,S1.1,S1.2,rfl, .inr ⟨n,rfl,hn,HH.1⟩⟩
 case round=>
  obtain⟨z,L,rfl,S⟩:=hrel;rcases S.2.2.2 with rfl|⟨m,rfl,hm,hmh⟩
  .have HE:Hid (L=Sp.W t n):=hZ (by have:=S.2.2.1;rw[Sp.qh t (-1) bB,List.append_nil]at this;exact this);have S2:Hid (Tb bw wr b (Sp.oa t (Sp.W t n) n y)/\bH b w wr):=hZ (by rw[<-HE.v];exact⟨S.1,S.2.1⟩);have h0:Hid ((Sp.oa t (Sp.W t n) n y).cr n 0=0):=hZ (by
    show(if n∈Sp.W t n/\0=Sp.low t n then y+1 else t.cr n 0)=0;have:=(HI.low hy HH.2 hn).1;rw[aI (λc=>bB)];exact HI.sA n hn)
   go_wp2_with fail
   refine sC (AB b n y _ _ S2.1 hn HH.1 h0.v) ?_;rintro w1 hw;subst w1;go_wp2
   go_ret2
   exact⟨rfl,S2.v⟩
  .have HMH:=hZ hmh;have ST:=hZ (HI.tree.step hm hmh);have PC:=hZ (HI.tree.im hm hmh);have LW:=hZ (HI.low hy HH.2 hm);have hmI:(m:Int)<6:=bB
   have hne:=wa m;have NM:Hid (m∉L):=hZ (λc=>by
    have nd:=HI.tree.nodup hn HH.1;rw[<-S.2.2.1,ST.v]at nd;exact(List.nodup_append.1 nd).2.2 m c m (by simp) rfl)
   have SW:Hid (∀p,(Sp.oa t L n y).cr m p=t.cr m p):=hZ (λp=>by
    show(if m∈L/\p=Sp.low t m then y+1 else t.cr m p)=t.cr m p;rw[aI (λc=>NM.v c.1)])
   go_wp2_with fail
   obtain⟨l,hl⟩:=nJ (Sp.low t m);have HL:=hZ hl;have hl21:(l:Int)<21:=by have:=LW.2.1;omega
   go_region_held3 (λ_=>True) (trivial) ((go_at_call 221;refine sC (Oe b m _ _ S.1.drew hm HMH.v ⟨Sp.low t m,LW.1,LW.2.1,by rw[SW.v];exact LW.2.2.1⟩) ?_;rintro w2 hw2;rw[Sp.OO SW.v,HL.v];subst hw2;have q1:=S.1.drew.Io m l hm (by have:=LW.2.1;rw[HL.v]at this;exact this);have qf:=S.1.drew.frozen))
   generalize hW2:World.drew _=W2;have S2:Hid (Tb bw W2 b (Sp.oa t (L++[m]) n y)/\bH b w W2):=hZ (by
    rw[<-hW2,<-HL.v];exact⟨(TQ S.1 hm HMH.v LW.2.1).drew,(S.2.1.setCell _ _).drew⟩)
   have c1:W2.cell? ⟨b,m*23+1,bu⟩=bj (aa az (t.par m)):=S2.1.uL m hm;go_wp2
   go_roundw
   case rel=>
    refine⟨t.par m,L++[m],by first|rfl|trivial,S2.1,S2.2,?_,?_⟩
    .have:=S.2.2.1;rw[ST.v]at this;rw[<-this];simp
    .rcases PC.v with⟨_,e,_⟩|⟨p,p1,p2,p3,_⟩
     .exact .inl e
     .exact .inr ⟨p,p2,p1,p3⟩
   case measure=>
    simp only[intOf];rw[ST.v,List.length_cons];omega
theorem Ko(b:Nat)(z x:Int)(t:T)(d:Nat->Nat)(w:bD)(h:Tb bw w b t)(hI:Sp.Inv t d):
  Calls prog 142 #[ai (bj ⟨b,0,bu⟩),aa az z,aa az x] w λe w'=>e=bf (ao #[aa az (Sp.uP t z x:Int),bN (Sp.mP t z x)])/\Tb bw w' b (Sp.fM t z x)/\bH b w w':=by
 by_cases k:Sp.jr t z x=0
 .obtain⟨n,y,rfl,rfl,hn,hy,hh⟩:=Sp.tR k;by_cases ho:t.of y=0
  .have e1:Sp.mP t n y=0:=by unfold Sp.mP;rw[aJ k,hU,aJ ho]
   have e3:Sp.fM t n y=Sp.oa t (Sp.W t n) n y:=by unfold Sp.fM;rw[e1,aJ rfl,hU,hU];rfl
   have e2:Sp.uP t n y=Sp.jb (Sp.oa t (Sp.W t n) n y) n y:=by unfold Sp.uP;rw[e1,aJ rfl,e3,hU,hU]
   have i2:=hI.enter n y;rw[e3]at i2;have hp:=i2.pid (n:=n) (x:=y) hn ⟨Sp.low t n,(hI.low hy ho hn).2.1,by
    show(if n∈Sp.W t n/\Sp.low t n=Sp.low t n then y+1 else t.cr n (Sp.low t n))=y+1;rw[aJ ⟨by rw[hI.tree.step hn hh];simp,rfl⟩]⟩
   grind [NV,vk,wR,bH.refl,wS]
  .have e1:Sp.mP t n y=3:=by unfold Sp.mP;rw[aJ k,hU,aI ho]
   have e3:Sp.fM t n y=t:=by unfold Sp.fM;rw[e1];rfl
   have e2:Sp.uP t n y=0:=by unfold Sp.uP;rw[e1];rfl
   refine(wR b n y t w h k hy ho).mono ?_;rintro e w' ⟨rfl,rfl⟩;rw[e1,e2,e3];exact⟨rfl,h,bH.refl _ _⟩
 .have e1:Sp.mP t z x=Sp.jr t z x:=by unfold Sp.mP;rw[aI k]
  have e3:Sp.fM t z x=t:=by unfold Sp.fM;rw[e1,aI k]
  have e2:Sp.uP t z x=0:=by unfold Sp.uP;rw[e1,aI k]
  refine(wS b z x t w h k).mono ?_;rintro e w' ⟨rfl,rfl⟩;rw[e1,e2,e3];exact⟨rfl,h,bH.refl _ _⟩
theorem FV(b:Nat)(x:Int)(t:T)(w:bD)(h:Tb bw w b t)(k:Sp.mL t x≠0):
  Calls prog 152 #[ai (bj ⟨b,0,bu⟩),aa az x] w λe w'=>e=bf (bN (Sp.mL t x))/\w'=w:=by
 have HF:=hZ h;have HW:=hZ k;go_in
 go_wp2_with fail
 refine sC (Ec b x t _ HF.v) ?_;rintro w1 hw;subst w1;rw[bM HW.v];go_wp2
 go_ret
 rw[bM HW.v];exact⟨rfl,rfl⟩
theorem OG(b n y:Nat)(t:T)(d:Nat->Nat)(w:bD)(h:Tb bw w b t)(hI:Sp.Inv t d)(k:Sp.mL t y=0)(hk:Sp.dQ t y=n)(hn:n<6)(hh:t.here n=bw)(hy:y<20)(ho:t.of y=n+1):
  Calls prog 152 #[ai (bj ⟨b,0,bu⟩),aa az y] w λe w'=>e=bf (bN 0)/\Tb bw w' b (Sp.mR t (Sp.W t n) y)/\bH b w w':=by
 have HF:=hZ h;have HI:=hZ hI;have HK:=hZ (aK k hk);have HH:=hZ (aK hh ho);have c:=h.Qh y hy;have cf:=h.frozen;have hyI:(y:Int)<20:=bB
 have hnI:(n:Int)<6:=bB
 have S0:Hid (Tb bw (w.setCell ⟨b,138+y,bu⟩ (aa az (-1))) b (Sp.mR t [] y)/\bH b w (w.setCell ⟨b,138+y,bu⟩ (aa az (-1)))):=hZ ⟨Jh h hy,(bH.refl b w).setCell _ _⟩;go_in
 go_wp2_with fail
 refine sC (Ec b y t _ HF.v) ?_;rintro w1 hw;subst w1;rw[HK.1,HK.2,bF];go_wp2_with fail
 refine cM (λW=>Tb bw W b (Sp.mR t [] y)/\bH b w W) S0.v ?_;rintro W1 ⟨h1,f1⟩;have S1:=hZ (aK h1 f1);go_loopw [7] (λi wr=>∃(z:Int) (L:List Nat),i=aa az z/\Hid (Tb bw wr b (Sp.mR t L y)/\bH b w wr/\L++Sp.W t z=Sp.W t n/\(z= -1\/∃m:Nat,z=m/\m<6/\t.here m=bw))) (λi _=>(Sp.W t (intOf i)).length)
 case atStart=>exact⟨n,[],rfl,S1.1,S1.2,rfl, .inr ⟨n,rfl,hn,HH.1⟩⟩
 case round=>
  obtain⟨z,L,rfl,S⟩:=hrel;rcases S.2.2.2 with rfl|⟨m,rfl,hm,hmh⟩
  .have HE:Hid (L=Sp.W t n):=hZ (by have:=S.2.2.1;rw[Sp.qh t (-1) bB,List.append_nil]at this;exact this);have S2:Hid (Tb bw wr b (Sp.mR t (Sp.W t n) y)/\bH b w wr):=hZ (by rw[<-HE.v];exact⟨S.1,S.2.1⟩);go_wp2
   go_ret
   exact⟨rfl,S2.v⟩
  .have HMH:=hZ hmh;have ST:=hZ (HI.tree.step hm hmh);have PC:=hZ (HI.tree.im hm hmh);have MW:Hid (m∈Sp.W t n):=hZ (by rw[<-S.2.2.1,ST.v];simp);have LW:=hZ (HI.pid (x:=y) hm ((HI.has m y hm hy).2 ⟨by rw[HH.2];omega,by rw[HH.2,aP];exact MW.v⟩));have hmI:(m:Int)<6:=bB
   have hne:=wa m;have NM:Hid (m∉L):=hZ (λc=>by
    have nd:=HI.tree.nodup hn HH.1;rw[<-S.2.2.1,ST.v]at nd;exact(List.nodup_append.1 nd).2.2 m c m (by simp) rfl)
   have SW:Hid (∀p,(Sp.mR t L y).cr m p=t.cr m p):=hZ (λp=>by
    show(if m∈L/\t.cr m p=y+1 then 0 else t.cr m p)=t.cr m p;rw[aI (λc=>NM.v c.1)])
   go_wp2_with fail
   obtain⟨l,hl⟩:=nJ (Sp.jb t m y);have HL:=hZ hl;have hl21:(l:Int)<21:=by have:=LW.2.1;omega
   go_region_held3 (λ_=>True) (trivial) ((go_at_call 222;refine sC (AB b m y _ _ S.1.drew hm HMH.v (by rw[SW.v];exact HI.sA m hm)) ?_;rintro w2 hw2;have hpi:vk (Sp.mR t L y) m y=(l:Int):=(by unfold vk;rw[Sp.Jk SW.v,HL.v,aI (by have:=LW.1;rw[HL.v]at this;exact this)]);rw[hpi];subst hw2;have q1:=S.1.drew.Io m l hm (by have:=LW.2.1;rw[HL.v]at this;exact this);have qf:=S.1.drew.frozen))
   generalize hW2:World.drew _=W2;have S2:Hid (Tb bw W2 b (Sp.mR t (L++[m]) y)/\bH b w W2):=hZ (by
    have lw:=LW.v;rw[HL.v]at lw;rw[<-hW2];exact⟨(R7 S.1 hm HMH.v lw.2.1 lw.2.2 (λq hq e=>HI.one m q l hm hq lw.2.1 (by rw[e,lw.2.2]) (by rw[e];omega))).drew,(S.2.1.setCell _ _).drew⟩)
   have c1:W2.cell? ⟨b,m*23+1,bu⟩=bj (aa az (t.par m)):=S2.1.uL m hm;go_wp2
   go_roundw
   case rel=>
    refine⟨t.par m,L++[m],by first|rfl|trivial,S2.1,S2.2,?_,?_⟩
    .have:=S.2.2.1;rw[ST.v]at this;rw[<-this];simp
    .rcases PC.v with⟨_,e,_⟩|⟨p,p1,p2,p3,_⟩
     .exact .inl e
     .exact .inr ⟨p,p2,p1,p3⟩
   case measure=>
    simp only[intOf];rw[ST.v,List.length_cons];omega
theorem Lo(b:Nat)(x:Int)(t:T)(d:Nat->Nat)(w:bD)(h:Tb bw w b t)(hI:Sp.Inv t d):
  Calls prog 152 #[ai (bj ⟨b,0,bu⟩),aa az x] w λe w'=>e=bf (bN (Sp.mL t x))/\Tb bw w' b (Sp.dG t x)/\bH b w w':=by
 by_cases k:Sp.mL t x=0
 .obtain⟨y,rfl,hy,ho⟩:=Sp.Dt k;have o:=hI.pM y hy ho;have e2:Sp.dQ t y=t.of y-1:=by unfold Sp.dQ;rw[aJ k,hU]
  refine(OG b (t.of y-1) y t d w h hI k e2 bB o.2 hy bB).mono ?_;rintro e w' ⟨rfl,h1,h2⟩;rw[k];refine⟨rfl,?_,h2⟩;unfold Sp.dG;rw[k,aJ rfl,hU];refine h1.congr (gw (λa ha=>by rw[dn bw _ a ha,dn bw _ a ha];rfl) (λa ha=>by rw[dz bw _ a ha,dz bw _ a ha];rfl) (λa q ha hq=>?_) (λz hz=>by rw[dV,dV];rfl));rw[dA bw _ a q ha hq,dA bw _ a q ha hq];have e:(if a∈List.range 6/\t.cr a q=y+1 then 0 else t.cr a q)=(if a∈Sp.W t ((t.of y-1:Nat):Int)/\t.cr a q=y+1 then 0 else t.cr a q):=by
   by_cases c:t.cr a q=y+1
   .rw[aJ ⟨by simpa using ha,c⟩,aJ ⟨((hI.has a y ha hy).1 ⟨q,hq,c⟩).2,c⟩]
   grind
  show aa az (cw bw (t.here a) (if a∈List.range 6/\t.cr a q=y+1 then 0 else t.cr a q))=aa az (cw bw (t.here a) (if a∈Sp.W t ((t.of y-1:Nat):Int)/\t.cr a q=y+1 then 0 else t.cr a q));rw[e]
 .have e3:Sp.dG t x=t:=by unfold Sp.dG;rw[aI k]
  refine(FV b x t w h k).mono ?_;rintro e w' ⟨rfl,rfl⟩;rw[e3];exact⟨rfl,h,bH.refl _ _⟩
