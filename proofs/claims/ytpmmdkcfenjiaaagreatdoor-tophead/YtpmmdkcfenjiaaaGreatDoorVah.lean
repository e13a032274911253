import Derived.Test.YtpmmdkcfenjiaaaGreatDoorVae
import Derived.Test.YtpmmdkcfenjiaaaGreatDoorVaf
set_option maxRecDepth 100000
set_option maxHeartbeats 1000000
namespace Go.Proofs.YtpmmdkcfenjiaaaGreatDoor
namespace Sp
structure T where
 here:Nat->Bool
 par:Nat->Int
 ay:Nat->Nat->Nat
 of:Nat->Nat
def sJ (t:T):Nat->Int->List Nat
 |0,_=>[]
 |k+1,z=>if z<0 then[]else z.toNat::sJ t k (t.par z.toNat)
def W (t:T)(z:Int):List Nat:=sJ t 6 z
structure Tree (t:T)(d:Nat->Nat):Prop where
 root:t.here 0=true/\t.par 0= -1/\d 0=1
 up: ∀n,0<n->n<6->t.here n=true-> ∃p:Nat,p<6/\t.par n=(p:Int)/\t.here p=true/\d n=d p+1
 le: ∀n,n<6->t.here n=true->1<=d n/\d n<=4
section
variable {t : T} {d : Nat -> Nat}
theorem mE (t:T)(k:Nat)(z:Int)(h:z<0):sJ t k z=[]:=by cases k<;>simp[sJ,h]
theorem qD (t:T)(k n:Nat):sJ t (k+1) (n:Int)=n::sJ t k (t.par n):=by
 simp only[sJ];rw[aI (by omega),hU]
theorem Tree.fH (h:Tree t d){n:Nat}(hn:n<6)(hh:t.here n=true):(n=0/\t.par n= -1/\d n=1)\/ ∃p:Nat,p<6/\t.par n=(p:Int)/\t.here p=true/\d n=d p+1:=by
 by_cases e:n=0
 ·subst e;exact .inl ⟨rfl,h.root.2⟩
 ·exact .inr (h.up n (by omega) hn hh)
theorem Tree.IL (h:Tree t d): ∀(k n:Nat),n<6->t.here n=true->d n<=k->sJ t (k+1) (n:Int)=sJ t k (n:Int)
 |0,n,hn,hh,hk=>aZ (h.le n hn hh).1 (by omega)
 |k+1,n,hn,hh,hk=>by
  rw[qD,qD];rcases h.fH hn hh with⟨_,e,_⟩|⟨p,h1,e,h2,h3⟩
  ·rw[e,mE _ _ _ (by omega),mE _ _ _ (by omega)]
  ·rw[e,h.IL k p h1 h2 (by omega)]
theorem Tree.step (h:Tree t d){n:Nat}(hn:n<6)(hh:t.here n=true):W t (n:Int)=n::W t (t.par n):=by
 unfold W;rw[qD];rcases h.fH hn hh with⟨_,e,_⟩|⟨p,h1,e,h2,h3⟩
 ·rw[e,mE _ _ _ (by omega),mE _ _ _ (by omega)]
 ·rw[e,h.IL 5 p h1 h2 (by have:=(h.le n hn hh).2;omega)]
theorem mf (t:T)(z:Int)(h:z<0):W t z=[]:=mE t 6 z h
theorem Tree.ind (h:Tree t d){P:Nat->Prop}(hP: ∀n,n<6->t.here n=true->(∀p:Nat,p<6->t.here p=true->t.par n=(p:Int)->d n=d p+1->P p)->P n): ∀n,n<6->t.here n=true->P n:=by
 have: ∀k n,d n<=k->n<6->t.here n=true->P n:=by
  intro k
  induction k with
  |zero=>intro n h1 h2 h3;have:=(h.le n h2 h3).1;omega
  |succ k ih=>intro n h1 h2 h3;exact hP n h2 h3 (fun p p1 p2 _ p4=>ih p (by omega) p1 p2)
 exact fun n=>this (d n) n (aL _)
theorem Tree.len (h:Tree t d){n:Nat}(hn:n<6)(hh:t.here n=true):(W t (n:Int)).length=d n:=by
 refine h.ind (P:=fun n=>(W t (n:Int)).length=d n) (fun n hn hh ih=>?_) n hn hh;show(W t (n:Int)).length=d n;rw[h.step hn hh];rcases h.fH hn hh with⟨_,e,e2⟩|⟨p,h1,e,h2,h3⟩
 ·rw[e,mf _ _ (by omega),e2];rfl
 ·rw[e,List.length_cons,ih p h1 h2 e h3,h3]
theorem Tree.mem (h:Tree t d){n:Nat}(hn:n<6)(hh:t.here n=true): ∀x,x∈W t (n:Int)->x<6/\t.here x=true/\d x<=d n:=by
 refine h.ind (P:=fun n=> ∀x,x∈W t (n:Int)->x<6/\t.here x=true/\d x<=d n) (fun n hn hh ih=>?_) n hn hh;intro x hx;rw[h.step hn hh]at hx;rcases List.mem_cons.1 hx with e|hx
 ·subst e;exact⟨hn,hh,aL _⟩
 ·rcases h.fH hn hh with⟨_,e,e2⟩|⟨p,h1,e,h2,h3⟩
  ·rw[e,mf _ _ (by omega)]at hx;cases hx
  ·rw[e]at hx;have:=ih p h1 h2 e h3 x hx;exact⟨this.1,this.2.1,by omega⟩
theorem Tree.nodup (h:Tree t d){n:Nat}(hn:n<6)(hh:t.here n=true):(W t (n:Int)).Nodup:=by
 refine h.ind (P:=fun n=>(W t (n:Int)).Nodup) (fun n hn hh ih=>?_) n hn hh;show(W t (n:Int)).Nodup;rw[h.step hn hh];rcases h.fH hn hh with⟨_,e,e2⟩|⟨p,h1,e,h2,h3⟩
 ·rw[e,mf _ _ (by omega)];simp
 ·rw[e,List.nodup_cons];exact⟨fun hm=>by have:=(h.mem h1 h2 n hm).2.2;omega,ih p h1 h2 e h3⟩
theorem v8 {t t':T}(h:Tree t d)(hp: ∀n,n<6->t.here n=true->t'.par n=t.par n){n:Nat}(hn:n<6)(hh:t.here n=true):W t' (n:Int)=W t (n:Int):=by
 have: ∀k n,n<6->t.here n=true->sJ t' k (n:Int)=sJ t k (n:Int):=by
  intro k
  induction k with
  |zero=>intro n _ _;rfl
  |succ k ih=>
   intro n hn hh;rw[qD,qD,hp n hn hh];rcases h.fH hn hh with⟨_,e,_⟩|⟨p,h1,e,h2,h3⟩
   ·rw[e,mE _ _ _ (by omega),mE _ _ _ (by omega)]
   ·rw[e,ih p h1 h2]
 exact this 6 n hn hh
end
structure Inv (t:T)(d:Nat->Nat):Prop where
 tree:Tree t d
 no: ∀n,n<6->t.here n=false->t.par n=0
 nO: ∀n,n<6->t.ay n 0=0
 nS: ∀n p,n<6->p<21->t.ay n p<=20
 one: ∀n p q,n<6->p<21->q<21->t.ay n p=t.ay n q->t.ay n p≠0->p=q
 has: ∀n x,n<6->x<20->((∃p,p<21/\t.ay n p=x+1)↔(t.of x≠0/\n∈W t ((t.of x-1:Nat):Int)))
 nr: ∀x,x<20->t.of x≠0->t.of x<=6/\t.here (t.of x-1)=true
def bj (t:T)(z:Int):Int:=if z<0\/6<=z then 1 else if t.here z.toNat=true then 0 else 2
def jM (z:Int):Int:=if z<0\/20<=z then 1 else 0
def eI (t:T):Nat:=((List.range 6).find? (fun n=> !t.here n)).getD 6
def gS (t:T)(z:Int):Int:=if bj t z=0 then(if 4<=(W t z).length then 7 else if eI t=6 then 4 else 0)else bj t z
def ma (t:T)(z:Int):Nat:=if gS t z=0 then eI t else 0
def rH (f:Nat->Nat)(i v:Nat):Nat->Nat:=fun j=>if j=i then v else f j
def fw (f:Nat->Int)(i:Nat)(v:Int):Nat->Int:=fun j=>if j=i then v else f j
def lB (f:Nat->Bool)(i:Nat)(v:Bool):Nat->Bool:=fun j=>if j=i then v else f j
def eP (t:T)(z:Int):T:=if gS t z=0 then{t with here:=lB t.here (eI t) true,par:=fw t.par (eI t) z}else t
def iq (t:T)(n p:Nat):Bool:=decide (t.ay n p≠0)
def eO (t:T)(n:Nat):List Nat:=((List.range 21).filter (iq t n)).map (fun p=>t.ay n p-1)
def si (t:T)(n k:Nat):Bool:=t.here k&&decide (t.par k=(n:Int))
def kids (t:T)(n:Nat):Bool:=(List.range 6).any (si t n)
def gV (t:T)(z:Int):Int:=if bj t z=0 then(if z=0\/eO t z.toNat≠[]\/kids t z.toNat=true then 5 else 0)else bj t z
def fM (t:T)(z:Int):T:=if gV t z=0 then{t with here:=lB t.here z.toNat false,par:=fw t.par z.toNat 0}else t
def rM (t:T)(n p:Nat):Bool:=decide (1<=p)&&decide (t.ay n p=0)
def low (t:T)(n:Nat):Nat:=((List.range 21).find? (rM t n)).getD 0
def gM (t:T)(z x:Int):Int:=if bj t z=0 then jM x else bj t z
def kO (t:T)(z x:Int):Int:=if gM t z x=0 then(if t.of x.toNat=0 then 0 else 3)else gM t z x
def Ay (t:T)(L:List Nat)(x:Nat):T:={t with ay:=fun n p=>if n∈L/\p=low t n then x+1 else t.ay n p}
def dM (t:T)(z x:Int):T:=if kO t z x=0 then{Ay t (W t z) x.toNat with of:=rH t.of x.toNat (z.toNat+1)}else t
def rK (t:T)(n x p:Nat):Bool:=decide (t.ay n p=x+1)
def gv (t:T)(n x:Nat):Nat:=((List.range 21).find? (rK t n x)).getD 0
def rY (t:T)(z x:Int):Nat:=if kO t z x=0 then gv (dM t z x) z.toNat x.toNat else 0
def kF (t:T)(x:Int):Int:=if jM x=0 then(if t.of x.toNat=0 then 2 else 0)else jM x
def cQ (t:T)(x:Int):Nat:=if kF t x=0 then t.of x.toNat-1 else 0
def xX (t:T)(L:List Nat)(x:Nat):T:={t with ay:=fun n p=>if n∈L/\t.ay n p=x+1 then 0 else t.ay n p}
def cY (t:T)(x:Int):T:=if kF t x=0 then{xX t (List.range 6) x.toNat with of:=rH t.of x.toNat 0}else t
def u7 (t:T)(x z:Int):Int:=if gM t z x=0 then(if gv t z.toNat x.toNat=0 then 2 else 0)else gM t z x
def js (t:T)(x z:Int):Nat:=if u7 t x z=0 then gv t z.toNat x.toNat else 0
def fN (t:T)(z p:Int):Int:=if bj t z=0 then(if p<1\/20<p\/t.ay z.toNat p.toNat=0 then 2 else 0)else bj t z
def dZ (t:T)(z p:Int):Nat:=if fN t z p=0 then t.ay z.toNat p.toNat-1 else 0
def all (t:T):List Nat:=(List.range 6).filter t.here
def t0:T:=⟨fun n=>decide (n=0),fun n=>if n=0 then -1 else 0,fun _ _=>0,fun _=>0⟩
theorem j9 {P:Nat->Bool}{n i:Nat}(h:(List.range n).find? P=some i):i<n/\P i=true/\ ∀j,j<i->P j=false:=by
 obtain⟨h1,L,M,h2,h3⟩:=List.find?_eq_some_iff_append.1 h;have hi:i<n:=by have:=List.mem_of_find?_eq_some h;simpa using this
 refine⟨hi,h1,fun j hj=>?_⟩;have hl:L.length=i:=by
  have e1:(List.range n)[L.length]? =some i:=by rw[h2];simp
  rw[List.getElem?_range (by have:=congrArg List.length h2;simp at this;omega)]at e1;exact Option.some.inj e1
 have hm:j∈L:=by
  have e:(List.range n)[j]? =L[j]? :=by rw[h2,List.getElem?_append_left (by omega)]
  rw[List.getElem?_range (by omega)]at e;exact bK e.symm
 have:=h3 j hm;simpa using this
theorem tW {P:Nat->Bool}{n i:Nat}(hi:i<n)(h:P i=true)(hl: ∀j,j<i->P j=false):(List.range n).find? P=some i:=by
 cases hf:(List.range n).find? P with
 |none=>
  have:=List.find?_eq_none.1 hf i (by simpa using hi);exact aZ h this
 |some k=>
  have:=j9 hf;congr 1;by_cases e1:k<i
  ·have:=hl k e1;rw[(j9 hf).2.1]at this;cases this
  ·by_cases e2:i<k
   ·have:=(j9 hf).2.2 i e2;rw[h]at this;cases this
   ·omega
theorem CJ {P:Nat->Bool}{n:Nat}(h: ∀j,j<n->P j=false):(List.range n).find? P=none:=by
 rw[List.find?_eq_none];intro j hj;rw[h j (by simpa using hj)];simp
theorem mA {t:T}{z:Int}(h:bj t z=0): ∃n:Nat,z=n/\n<6/\t.here n=true:=by
 unfold bj at h;by_cases k:z<0\/6<=z
 ·rw[aJ k]at h;omega
 ·obtain⟨n,rfl⟩:=aG (show 0<=z by omega);rw[aI k,hU]at h;refine⟨n,rfl,by omega,?_⟩;by_cases c:t.here n=true
  ·exact c
  ·rw[aI c]at h;omega
theorem gO {t:T}{n:Nat}(hn:n<6)(hh:t.here n=true):bj t n=0:=by
 unfold bj;rw[aI (by omega),hU,aJ hh]
theorem vJ {z:Int}(h:jM z=0): ∃n:Nat,z=n/\n<20:=by
 unfold jM at h;by_cases k:z<0\/20<=z
 ·rw[aJ k]at h;omega
 ·exact⟨z.toNat,by omega,by omega⟩
theorem pH {n:Nat}(hn:n<20):jM n=0:=by unfold jM;rw[aI (by omega)]
theorem qO {t:T}{z x:Int}(h:gM t z x=0): ∃n k:Nat,z=n/\x=k/\n<6/\k<20/\t.here n=true:=by
 unfold gM at h;by_cases k:bj t z=0
 ·rw[aJ k]at h;obtain⟨n,rfl,h1,h2⟩:=mA k;obtain⟨m,rfl,h3⟩:=vJ h;exact⟨n,m,rfl,rfl,h1,h3,h2⟩
 ·rw[aI k]at h;exact aZ h k
theorem Kd {t:T}(h:eI t≠6):eI t<6/\t.here (eI t)=false/\ ∀j,j<eI t->t.here j=true:=by
 unfold eI at*;cases hf:(List.range 6).find? (fun n=> !t.here n)with
 |none=>rw[hf]at h;exact aZ rfl h
 |some k=>
  have:=j9 hf;refine⟨this.1,?_,fun j hj=>?_⟩
  ·have:=this.2.1;simpa using this
  ·have:=this.2.2 j hj;simpa using this
theorem J5 {t:T}{n:Nat}(hn:n<6)(h:t.here n=false)(hl: ∀j,j<n->t.here j=true):eI t=n:=by
 unfold eI;rw[tW (P:=fun n=> !t.here n) hn (by simp[h]) (fun j hj=>by simp[hl j hj])];rfl
theorem Kx {t:T}(hl: ∀j,j<6->t.here j=true):eI t=6:=by
 unfold eI;rw[CJ (P:=fun n=> !t.here n) (fun j hj=>by simp[hl j hj])];rfl
theorem ny {t:T}{z:Int}(h:gS t z=0): ∃n:Nat,z=n/\n<6/\t.here n=true/\(W t z).length<4/\eI t<6/\t.here (eI t)=false/\ ∀j,j<eI t->t.here j=true:=by
 unfold gS at h;by_cases k:bj t z=0
 ·rw[aJ k]at h;obtain⟨n,rfl,h1,h2⟩:=mA k;by_cases c:4<=(W t n).length
  ·rw[aJ c]at h;omega
  ·rw[aI c]at h;by_cases f:eI t=6
   ·rw[aJ f]at h;omega
   ·exact⟨n,rfl,h1,h2,by omega,Kd f⟩
 ·rw[aI k]at h;exact aZ h k
theorem wA:Tree t0 (fun _=>1):=by
 refine⟨⟨rfl,rfl,rfl⟩,fun n h0 _ hh=>?_,fun n _ _=>⟨by omega,by omega⟩⟩;simp[t0]at hh;omega
theorem uU:Inv t0 (fun _=>1):=by
 refine⟨wA,fun n _ hh=>?_,fun _ _=>rfl,fun _ _ _ _=>aC _,fun _ _ _ _ _ _ _ h=>aZ rfl h,fun n x _ _=>⟨fun⟨p,_,h⟩=>?_,fun⟨h,_⟩=>aZ rfl h⟩,fun x _ h=>aZ rfl h⟩
 ·simp[t0]at hh|-;exact fun e=>aZ e hh
 ·simp[t0]at h
theorem Inv.dead {t:T}{d:Nat->Nat}(h:Inv t d){n p:Nat}(hn:n<6)(hp:p<21)(hh:t.here n=false):t.ay n p=0:=by
 by_cases e:t.ay n p=0
 ·exact e
 ·have hl:=h.nS n p hn hp;have:=(h.has n (t.ay n p-1) hn (by omega)).1 ⟨p,hp,by omega⟩;have o:=h.nr (t.ay n p-1) (by omega) this.1;have:=(h.tree.mem (by omega) o.2 n this.2).2.1;rw[hh]at this;cases this
end Sp
namespace Sp
section
variable {t : T} {d : Nat -> Nat}
theorem Inv.add (h:Inv t d)(z:Int): ∃d',Inv (eP t z) d':=by
 unfold eP;by_cases k:gS t z=0
 ·rw[aJ k];obtain⟨n,rfl,hn,hh,hl,hf,hfh,_⟩:=ny k;rw[h.tree.len hn hh]at hl;generalize eI t=f at*;have fn:n≠f:=fun e=>by rw[e,hfh]at hh;cases hh
  have f0:f≠0:=fun e=>by rw[e,h.tree.root.1]at hfh;cases hfh
  have nf: ∀m,t.here m=true->m≠f:=fun m hm e=>by rw[e,hfh]at hm;cases hm
  obtain⟨t',et⟩: ∃t':T,{t with here:=lB t.here f true,par:=fw t.par f n}=t':=⟨_,rfl⟩;have eh: ∀m,t'.here m=if m=f then true else t.here m:=fun m=>by rw[<-et];rfl
  have ep: ∀m,t'.par m=if m=f then(n:Int)else t.par m:=fun m=>by rw[<-et];rfl
  have ew:t'.ay=t.ay:=by rw[<-et]
  have eo:t'.of=t.of:=by rw[<-et]
  have hw: ∀m,m<6->t.here m=true->W t' (m:Int)=W t (m:Int):=fun m hm hmh=>v8 h.tree (fun m hm hh=>by rw[ep,aI (nf m hh)]) hm hmh;rw[et];refine⟨fun m=>if m=f then d n+1 else d m,⟨⟨?_,fun m m0 hm hmh=>?_,fun m hm hmh=>?_⟩,fun m hm hmh=>?_,by rw[ew];exact h.nO,by rw[ew];exact h.nS,by rw[ew];exact h.one,fun m x hm hx=>?_,fun x hx hx0=>?_⟩⟩
  ·refine⟨?_,?_,?_⟩
   ·rw[eh];split
    ·rfl
    ·exact h.tree.root.1
   ·rw[ep,aI (bQ f0)];exact h.tree.root.2.1
   ·show(if 0=f then d n+1 else d 0)=1;rw[aI (bQ f0)];exact h.tree.root.2.2
  ·show∃p:Nat,p<6/\t'.par m=(p:Int)/\t'.here p=true/\(if m=f then d n+1 else d m)=(if p=f then d n+1 else d p)+1;by_cases e:m=f
   ·subst e;refine⟨n,hn,by rw[ep,aJ rfl],by rw[eh,aI fn];exact hh,by rw[aJ rfl,aI fn]⟩
   ·rw[eh,aI e]at hmh;obtain⟨p,p1,p2,p3,p4⟩:=h.tree.up m m0 hm hmh;grind
  ·show 1<=(if m=f then d n+1 else d m)/\(if m=f then d n+1 else d m)<=4;by_cases e:m=f
   ·rw[aJ e];omega
   ·rw[aI e];rw[eh,aI e]at hmh;exact h.tree.le m hm hmh
  ·rw[eh]at hmh;by_cases e:m=f
   ·rw[aJ e]at hmh;cases hmh
   ·rw[aI e]at hmh;rw[ep,aI e];exact h.no m hm hmh
  ·rw[ew,eo,h.has m x hm hx];constructor
   ·rintro⟨h1,h2⟩;have o:=h.nr x hx h1;exact⟨h1,by rw[hw _ (by omega) o.2];exact h2⟩
   ·rintro⟨h1,h2⟩;have o:=h.nr x hx h1;exact⟨h1,by rw[hw _ (by omega) o.2]at h2;exact h2⟩
  ·rw[eo]at hx0|-;have o:=h.nr x hx hx0;exact⟨o.1,by rw[eh];split;rfl;exact o.2⟩
 ·rw[aI k];exact⟨d,h⟩
theorem By {n:Nat}(h:eO t n=[])(p:Nat)(hp:p<21):t.ay n p=0:=by
 have h1:=List.map_eq_nil_iff.1 h;have:=List.filter_eq_nil_iff.1 h1 p (by simpa using hp);simpa[iq]using this
theorem No {n:Nat}(h:kids t n=false)(k:Nat)(hk:k<6)(hh:t.here k=true):t.par k≠(n:Int):=fun e=>by
 have:kids t n=true:=by unfold kids;rw[List.any_eq_true];exact⟨k,by simpa using hk,by unfold si;rw[hh,e];simp⟩
 grind
theorem DL {z:Int}(h:gV t z=0): ∃n:Nat,z=n/\n≠0/\n<6/\t.here n=true/\eO t n=[]/\kids t n=false:=by grind [gV,bj,eO,kids]
theorem Inv.drop (h:Inv t d)(z:Int):Inv (fM t z) d:=by
 unfold fM;by_cases k:gV t z=0
 ·rw[aJ k];obtain⟨f,rfl,f0,hf,hfh,hm,hk⟩:=DL k;rw[hU];obtain⟨t',et⟩: ∃t':T,{t with here:=lB t.here f false,par:=fw t.par f 0}=t':=⟨_,rfl⟩;have eh: ∀m,t'.here m=if m=f then false else t.here m:=fun m=>by rw[<-et];rfl
  have ep: ∀m,t'.par m=if m=f then(0:Int)else t.par m:=fun m=>by rw[<-et];rfl
  have ew:t'.ay=t.ay:=by rw[<-et]
  have eo:t'.of=t.of:=by rw[<-et]
  rw[et];have pn: ∀m p:Nat,m<6->t.here m=true->t.par m=(p:Int)->p≠f:=fun m p hm hh e c=>No hk m hm hh (by rw[e,c]);have tr:Tree t' d:=by
   refine⟨⟨by rw[eh,aI (bQ f0)];exact h.tree.root.1,by rw[ep,aI (bQ f0)];exact h.tree.root.2.1,h.tree.root.2.2⟩,fun m m0 hm' hmh=>?_,fun m hm' hmh=>?_⟩
   ·rw[eh]at hmh;by_cases e:m=f
    ·rw[aJ e]at hmh;cases hmh
    ·rw[aI e]at hmh;obtain⟨p,p1,p2,p3,p4⟩:=h.tree.up m m0 hm' hmh;exact⟨p,p1,by rw[ep,aI e];exact p2,by rw[eh,aI (pn m p hm' hmh p2)];exact p3,p4⟩
   ·rw[eh]at hmh;by_cases e:m=f
    ·rw[aJ e]at hmh;cases hmh
    ·rw[aI e]at hmh;exact h.tree.le m hm' hmh
  have hw: ∀m,m<6->t'.here m=true->W t (m:Int)=W t' (m:Int):=fun m hm' hmh=>v8 tr (fun k hk' hkh=>by
   rw[eh]at hkh;by_cases e:k=f
   ·rw[aJ e]at hkh;cases hkh
   ·rw[ep,aI e]) hm' hmh
  have of: ∀x,x<20->t.of x≠0->t.of x-1≠f:=fun x hx hx0 e=>by
   have o:=h.nr x hx hx0;have:t.of x-1∈W t ((t.of x-1:Nat):Int):=by rw[h.tree.step (by omega) o.2];simp
   obtain⟨p,hp,hw⟩:=(h.has (t.of x-1) x (by omega) hx).2 ⟨hx0,this⟩;rw[e,By hm p hp]at hw;omega
  refine⟨tr,fun m hm' hmh=>?_,by rw[ew];exact h.nO,by rw[ew];exact h.nS,by rw[ew];exact h.one,fun m x hm' hx=>?_,fun x hx hx0=>?_⟩
  ·rw[eh]at hmh;by_cases e:m=f
   ·rw[ep,aJ e]
   ·rw[aI e]at hmh;rw[ep,aI e];exact h.no m hm' hmh
  ·rw[ew,eo,h.has m x hm' hx];constructor
   ·rintro⟨h1,h2⟩;have o:=h.nr x hx h1;exact⟨h1,by rw[<-hw _ (by omega) (by rw[eh,aI (of x hx h1)];exact o.2)];exact h2⟩
   ·rintro⟨h1,h2⟩;have o:=h.nr x hx h1;grind
  ·rw[eo]at hx0|-;have o:=h.nr x hx hx0;exact⟨o.1,by rw[eh,aI (of x hx hx0)];exact o.2⟩
 ·rw[aI k];exact h
theorem sB: ∀(l m:List Nat),l.Nodup->(∀x∈l,x∈m)->l.length<=m.length
 |[],_,_,_=>aC _
 |a::t,m,hn,hs=>by
  have hn':=List.nodup_cons.1 hn;have:=sB t (m.erase a) hn'.2 (fun x hx=>(List.mem_erase_of_ne (show x≠a from fun e=>hn'.1 (by rw[<-e];exact hx))).2 (hs x (by simp[hx])));grind
theorem Inv.room (h:Inv t d){x n:Nat}(hx:x<20)(h0:t.of x=0)(hn:n<6): ∃p,1<=p/\p<21/\t.ay n p=0:=by
 refine Classical.byContradiction fun hc=>?_;have hne: ∀p,p<20->t.ay n (p+1)≠0:=fun p hp e=>hc ⟨p+1,by omega,by omega,e⟩;have hl:((List.range 20).map (fun p=>t.ay n (p+1)-1)).Nodup:=by
  rw[List.nodup_iff_pairwise_ne,List.pairwise_map];refine List.Pairwise.imp_of_mem ?_ (List.nodup_iff_pairwise_ne.1 List.nodup_range);intro a b ha hb hab e;have ha':a<20:=by simpa using ha
  have hb':b<20:=by simpa using hb
  have a0:=hne a ha';have b0:=hne b hb';have:=h.one n (a+1) (b+1) hn (by omega) (by omega) (by omega) a0;omega
 have hs: ∀y∈(List.range 20).map (fun p=>t.ay n (p+1)-1),y∈(List.range 20).erase x:=by
  intro y hy;obtain⟨a,ha,rfl⟩:=List.mem_map.1 hy;have ha':a<20:=by simpa using ha
  have a0:=hne a ha';have al:=h.nS n (a+1) hn (by omega);rw[List.Nodup.mem_erase_iff List.nodup_range];refine⟨fun e=>?_,by simp;omega⟩;have:=(h.has n x hn hx).1 ⟨a+1,by omega,by omega⟩;exact this.1 h0
 have hlen:=sB _ _ hl hs;grind
theorem Inv.low (h:Inv t d){x n:Nat}(hx:x<20)(h0:t.of x=0)(hn:n<6):1<=Sp.low t n/\Sp.low t n<21/\t.ay n (Sp.low t n)=0/\ ∀q,1<=q->q<Sp.low t n->t.ay n q≠0:=by
 obtain⟨p,p1,p2,p3⟩:=h.room hx h0 hn;unfold Sp.low;cases hf:(List.range 21).find? (rM t n)with
 |none=>
  have:=List.find?_eq_none.1 hf p (by simpa using p2);exact aZ (by unfold rM;rw[p3];simp;omega) this
 |some k=>
  have:=j9 hf;have h1:=this.2.1;unfold rM at h1;simp at h1;refine⟨h1.1,this.1,h1.2,fun q q1 q2 e=>?_⟩;unfold rM at this;grind
theorem N4 {n p:Nat}(p1:1<=p)(p2:p<21)(h:t.ay n p=0)(hl: ∀q,1<=q->q<p->t.ay n q≠0):Sp.low t n=p:=by
 unfold Sp.low;rw[tW p2 (by unfold rM;rw[h];simp;omega) (fun q hq=>by
  unfold rM;by_cases e:1<=q
  ·grind
  ·simp[e])]
 rfl
theorem Im {z x:Int}(h:kO t z x=0): ∃n k:Nat,z=n/\x=k/\n<6/\k<20/\t.here n=true/\t.of k=0:=by grind [kO,gM,qO]
theorem Inv.enter (h:Inv t d)(z x:Int):Inv (dM t z x) d:=by
 unfold dM;by_cases k:kO t z x=0
 ·rw[aJ k];obtain⟨n,y,rfl,rfl,hn,hy,hh,h0⟩:=Im k;rw[hU,hU];obtain⟨t',et⟩: ∃t':T,{Ay t (W t n) y with of:=rH t.of y (n+1)}=t':=⟨_,rfl⟩;have eh:t'.here=t.here:=by rw[<-et];rfl
  have ep:t'.par=t.par:=by rw[<-et];rfl
  have ew: ∀m p,t'.ay m p=if m∈W t n/\p=Sp.low t m then y+1 else t.ay m p:=fun m p=>by rw[<-et];rfl
  have eo: ∀u,t'.of u=if u=y then n+1 else t.of u:=fun u=>by rw[<-et];rfl
  rw[et];have hw: ∀m,m<6->t.here m=true->W t' (m:Int)=W t (m:Int):=fun m hm hmh=>v8 h.tree (fun k _ _=>by rw[ep]) hm hmh;have lw: ∀m,m<6->_:=fun m hm=>h.low (n:=m) hy h0 hm;have free: ∀m p,m<6->p<21->t.ay m p≠y+1:=fun m p hm hp e=>((h.has m y hm hy).1 ⟨p,hp,e⟩).1 h0;refine⟨⟨by rw[eh,ep];exact h.tree.root,by rw[eh,ep];exact h.tree.up,by rw[eh];exact h.tree.le⟩,by rw[eh,ep];exact h.no,fun m hm=>?_,fun m p hm hp=>?_,fun m p q hm hp hq e e0=>?_,fun m u hm hu=>?_,fun u hu u0=>?_⟩
  ·rw[ew,aI (fun c=>by have:=(lw m hm).1;omega)];exact h.nO m hm
  ·rw[ew];split
   ·omega
   ·exact h.nS m p hm hp
  ·rw[ew]at e e0;rw[ew m q]at e;by_cases c:m∈W t n/\p=Sp.low t m
   ·rw[aJ c]at e e0;by_cases c2:m∈W t n/\q=Sp.low t m
    ·rw[c.2,c2.2]
    ·rw[aI c2]at e;exact aZ e.symm (free m q hm hq)
   ·rw[aI c]at e e0;by_cases c2:m∈W t n/\q=Sp.low t m
    ·rw[aJ c2]at e;exact aZ e (free m p hm hp)
    ·rw[aI c2]at e;exact h.one m p q hm hp hq e e0
  ·rw[eo];by_cases e:u=y
   ·subst e;grind
   ·rw[aI e];have hm':(∃p,p<21/\t'.ay m p=u+1)↔(∃p,p<21/\t.ay m p=u+1):=by
     constructor
     ·rintro⟨p,hp,e2⟩;rw[ew]at e2;by_cases c:m∈W t n/\p=Sp.low t m
      ·rw[aJ c]at e2;omega
      ·rw[aI c]at e2;exact⟨p,hp,e2⟩
     ·rintro⟨p,hp,e2⟩;refine⟨p,hp,?_⟩;rw[ew,aI (fun c=>by rw[c.2,(lw m hm).2.2.1]at e2;omega)];exact e2
    rw[hm',h.has m u hm hu];constructor
    ·rintro⟨h1,h2⟩;have o:=h.nr u hu h1;exact⟨h1,by rw[hw _ (by omega) o.2];exact h2⟩
    ·rintro⟨h1,h2⟩;have o:=h.nr u hu h1;exact⟨h1,by rw[hw _ (by omega) o.2]at h2;exact h2⟩
  ·rw[eo]at u0|-;rw[eh];by_cases e:u=y
   ·rw[aJ e];exact⟨by omega,by rw[aP];exact hh⟩
   ·rw[aI e]at u0|-;exact h.nr u hu u0
 ·rw[aI k];exact h
theorem BR {x:Int}(h:kF t x=0): ∃k:Nat,x=k/\k<20/\t.of k≠0:=by grind [kF,jM]
theorem Inv.leave (h:Inv t d)(x:Int):Inv (cY t x) d:=by
 unfold cY;by_cases k:kF t x=0
 ·rw[aJ k];obtain⟨y,rfl,hy,h0⟩:=BR k;rw[hU];obtain⟨t',et⟩: ∃t':T,{xX t (List.range 6) y with of:=rH t.of y 0}=t':=⟨_,rfl⟩;have eh:t'.here=t.here:=by rw[<-et];rfl
  have ep:t'.par=t.par:=by rw[<-et];rfl
  have ew: ∀m p,m<6->t'.ay m p=if t.ay m p=y+1 then 0 else t.ay m p:=fun m p hm=>by rw[<-et];simp[xX,hm]
  have eo: ∀u,t'.of u=if u=y then 0 else t.of u:=fun u=>by rw[<-et];rfl
  rw[et];have hw: ∀m,m<6->t.here m=true->W t' (m:Int)=W t (m:Int):=fun m hm hmh=>v8 h.tree (fun k _ _=>by rw[ep]) hm hmh;refine⟨⟨by rw[eh,ep];exact h.tree.root,by rw[eh,ep];exact h.tree.up,by rw[eh];exact h.tree.le⟩,by rw[eh,ep];exact h.no,fun m hm=>?_,fun m p hm hp=>?_,fun m p q hm hp hq e e0=>?_,fun m u hm hu=>?_,fun u hu u0=>?_⟩
  ·rw[ew _ _ hm,h.nO m hm];rfl
  ·rw[ew _ _ hm];split
   ·omega
   ·exact h.nS m p hm hp
  ·rw[ew _ _ hm]at e e0;rw[ew _ q hm]at e;by_cases c:t.ay m p=y+1
   ·rw[aJ c]at e0;exact aZ rfl e0
   ·rw[aI c]at e e0;by_cases c2:t.ay m q=y+1
    ·rw[aJ c2]at e;exact aZ e e0
    ·rw[aI c2]at e;exact h.one m p q hm hp hq e e0
  ·rw[eo];by_cases e:u=y
   ·subst e;rw[aJ rfl];constructor
    ·rintro⟨p,hp,e⟩;rw[ew _ _ hm]at e;by_cases c:t.ay m p=u+1
     ·rw[aJ c]at e;omega
     ·rw[aI c]at e;exact aZ e c
    ·rintro⟨c,_⟩;exact aZ rfl c
   ·rw[aI e];have hm':(∃p,p<21/\t'.ay m p=u+1)↔(∃p,p<21/\t.ay m p=u+1):=by grind
    rw[hm',h.has m u hm hu];constructor
    ·rintro⟨h1,h2⟩;have o:=h.nr u hu h1;exact⟨h1,by rw[hw _ (by omega) o.2];exact h2⟩
    ·rintro⟨h1,h2⟩;have o:=h.nr u hu h1;exact⟨h1,by rw[hw _ (by omega) o.2]at h2;exact h2⟩
  ·rw[eo]at u0|-;rw[eh];by_cases e:u=y
   ·rw[aJ e]at u0;exact aZ rfl u0
   ·rw[aI e]at u0|-;exact h.nr u hu u0
 ·rw[aI k];exact h
end
end Sp
open Go.RowKit
open Sp (T)
def Qf (c:Bool):TypeId:=if c then 181 else 100000
def cw (c h:Bool)(v:Nat):Int:=if c then(if h then(v:Int)-1 else 0)else v
def co (c:Bool)(v:Nat):Int:=if c then(v:Int)-1 else v
def jj (c:Bool)(t:T)(o:Nat):Value:=
 if o<138 then(if o%23=0 then .bool (t.here (o/23))else if o%23=1 then .int .i64 (t.par (o/23))else .int .i64 (cw c (t.here (o/23)) (t.ay (o/23) (o%23-2))))else .int .i64 (co c (t.of (o-138)))
theorem cr (c:Bool)(t:T)(n:Nat)(hn:n<6):jj c t (n*23)= .bool (t.here n):=by
 unfold jj;rw[aJ (by omega),aJ (by omega),show n*23/23=n by omega]
theorem cG (c:Bool)(t:T)(n:Nat)(hn:n<6):jj c t (n*23+1)= .int .i64 (t.par n):=by
 unfold jj;rw[aJ (by omega),aI (by omega),aJ (by omega),show(n*23+1)/23=n by omega]
theorem cH (c:Bool)(t:T)(n p:Nat)(hn:n<6)(hp:p<21):jj c t (n*23+2+p)= .int .i64 (cw c (t.here n) (t.ay n p)):=by
 unfold jj;rw[aJ (by omega),aI (by omega),aI (by omega),show(n*23+2+p)/23=n by omega,show(n*23+2+p)%23-2=p by omega]
theorem dj (c:Bool)(t:T)(x:Nat):jj c t (138+x)= .int .i64 (co c (t.of x)):=by
 unfold jj;rw[aI (by omega),show 138+x-138=x by omega]
theorem fq {P:Nat->Prop}(h1: ∀n,n<6->P (n*23))(h2: ∀n,n<6->P (n*23+1))(h3: ∀n p,n<6->p<21->P (n*23+2+p))(h4: ∀x,x<20->P (138+x))(o:Nat)(ho:o<158):P o:=by
 by_cases a:o<138
 ·by_cases r0:o%23=0
  ·have:=h1 (o/23) (by omega);rwa [show o/23*23=o by omega]at this
  ·by_cases r1:o%23=1
   ·have:=h2 (o/23) (by omega);rwa [show o/23*23+1=o by omega]at this
   ·have:=h3 (o/23) (o%23-2) (by omega) (by omega);rwa [show o/23*23+2+(o%23-2)=o by omega]at this
 ·have:=h4 (o-138) (by omega);rwa [show 138+(o-138)=o by omega]at this
structure Tb (c:Bool)(w:bD)(b:Nat)(t:T):Prop where
 cv: ∃C,w.heap[b]? =some (.cells C (Qf c) (0,0))/\C.size=158
 cell: ∀o,o<158->w.cell? ⟨b,o,none⟩=some (jj c t o)
section
variable {c : Bool} {w w' : bD} {b : Nat} {t t' : T}
theorem Tb.drew (h:Tb c w b t):Tb c w.drew b t:=⟨h.cv,h.cell⟩
theorem Tb.frozen (h:Tb c w b t)(o:Nat):w.frozen? ⟨b,o,none⟩=false:=by obtain⟨C,h1,_⟩:=h.cv;exact bf h1 o
theorem Tb.lt (h:Tb c w b t):b<w.heap.size:=by obtain⟨C,h1,_⟩:=h.cv;exact(aX.1 h1).1
theorem Tb.same (h:Tb c w b t)(e:w'.heap[b]? =w.heap[b]?):Tb c w' b t:=⟨by rw[e];exact h.cv,fun o ho=>(aV e).trans (h.cell o ho)⟩
theorem Tb.below (h:Tb c w b t)(k:Below w.heap.size w w'):Tb c w' b t:=h.same (k.block b h.lt)
theorem Tb.congr (h:Tb c w b t)(e: ∀o,o<158->jj c t' o=jj c t o):Tb c w b t':=⟨h.cv,fun o ho=>by rw[e o ho];exact h.cell o ho⟩
theorem Tb.zr (h:Tb c w b t)(n:Nat)(hn:n<6):w.cell? ⟨b,n*23,none⟩=some (.bool (t.here n)):=by rw[h.cell _ (by omega),cr c t n hn]
theorem Tb.sV (h:Tb c w b t)(n:Nat)(hn:n<6):w.cell? ⟨b,n*23+1,none⟩=some (.int .i64 (t.par n)):=by rw[h.cell _ (by omega),cG c t n hn]
theorem Tb.EU (h:Tb c w b t)(n p:Nat)(hn:n<6)(hp:p<21):w.cell? ⟨b,n*23+2+p,none⟩=some (.int .i64 (cw c (t.here n) (t.ay n p))):=by rw[h.cell _ (by omega),cH c t n p hn hp]
theorem Tb.OD (h:Tb c w b t)(x:Nat)(hx:x<20):w.cell? ⟨b,138+x,none⟩=some (.int .i64 (co c (t.of x))):=by rw[h.cell _ (by omega),dj]
theorem Tb.JZ (h:Tb true w b t)(n p:Nat)(hn:n<6)(hp:p<21)(hh:t.here n=true):w.cell? ⟨b,n*23+2+p,none⟩=some (.int .i64 ((t.ay n p:Int)-1)):=by rw[h.EU n p hn hp,hh];rfl
theorem Tb.LJ (h:Tb true w b t)(x:Nat)(hx:x<20):w.cell? ⟨b,138+x,none⟩=some (.int .i64 ((t.of x:Int)-1)):=by rw[h.OD x hx];rfl
theorem Tb.set (h:Tb c w b t)(o:Nat)(ho:o<158)(v:Value)(hv: ∀i,i<158->jj c t' i=if i=o then v else jj c t i):Tb c (w.setCell ⟨b,o,none⟩ v) b t':=by
 obtain⟨C,h1,h2⟩:=h.cv;refine⟨⟨_,bC h1 _ v,by simpa using h2⟩,fun i hi=>?_⟩;rw[hv i hi];by_cases e:i=o
 ·subst e;rw[cL h1 _ v (by omega),aJ rfl]
 ·rw[cC h1 _ _ v (bQ e),aI e];exact h.cell i hi
def He (t:T)(n p v:Nat):T:={t with ay:=fun a q=>if a=n/\q=p then v else t.ay a q}
theorem Tb.GJ (h:Tb c w b t)(n p v:Nat)(hn:n<6)(hp:p<21):Tb c (w.setCell ⟨b,n*23+2+p,none⟩ (.int .i64 (cw c (t.here n) v))) b (He t n p v):=by
 refine h.set _ (by omega) _ (fq (fun m hm=>?_) (fun m hm=>?_) (fun m q hm hq=>?_) (fun x hx=>?_))
 ·rw[cr c _ m hm,cr c _ m hm,aI (by omega)];rfl
 ·rw[cG c _ m hm,cG c _ m hm,aI (by omega)];rfl
 ·rw[cH c _ m q hm hq,cH c _ m q hm hq];by_cases e:m=n/\q=p
  ·obtain⟨rfl,rfl⟩:=e;rw[aJ rfl];simp[He]
  ·rw[aI (by omega)];simp[He,e]
 ·rw[dj,dj,aI (by omega)];rfl
theorem Tb.setOf (h:Tb c w b t)(x v:Nat)(hx:x<20):Tb c (w.setCell ⟨b,138+x,none⟩ (.int .i64 (co c v))) b {t with of:=Sp.rH t.of x v}:=by
 refine h.set _ (by omega) _ (fq (fun m hm=>?_) (fun m hm=>?_) (fun m q hm hq=>?_) (fun y hy=>?_))
 ·rw[cr c _ m hm,cr c _ m hm,aI (by omega)]
 ·rw[cG c _ m hm,cG c _ m hm,aI (by omega)]
 ·rw[cH c _ m q hm hq,cH c _ m q hm hq,aI (by omega)]
 ·rw[dj,dj];by_cases e:y=x
  ·subst e;rw[aJ rfl];simp[Sp.rH]
  ·rw[aI (by omega)];simp[Sp.rH,e]
end
def dG (hh:Bool)(p:Int)(f:Nat->Int):Array Value:=((List.range 23).map fun i=>if i=0 then Value.bool hh else if i=1 then .int .i64 p else .int .i64 (f (i-2))).toArray
theorem eA (hh:Bool)(p:Int)(f:Nat->Int):(dG hh p f).size=23:=by simp[dG]
theorem qw (hh:Bool)(p:Int)(f:Nat->Int):(dG hh p f).toList.length=23:=by simp[dG]
theorem lQ (hh:Bool)(p:Int)(f:Nat->Int)(i:Nat)(h:i<23):(dG hh p f)[i]? =some (if i=0 then Value.bool hh else if i=1 then .int .i64 p else .int .i64 (f (i-2))):=by simp[dG,h]
theorem qe (hh:Bool)(p:Int)(f:Nat->Int):(dG hh p f).all (·.oneCell')=true:=by
 rw[Array.all_eq_true_iff_forall_mem];intro v hv;simp only[dG,List.mem_toArray,List.mem_map]at hv;obtain⟨i,_,rfl⟩:=hv;split
 ·rfl
 ·split<;>rfl
theorem Ny (hh:Bool)(p:Int)(f:Nat->Int)(i:Nat)(v:Int)(hi:i<21):(dG hh p f).setIfInBounds (2+i) (.int .i64 v)=dG hh p (Sp.fw f i v):=by
 apply bL;intro j;rcases Nat.lt_or_ge j 23 with hj|hj
 ·rw[lQ _ _ _ j hj];by_cases e:j=2+i
  ·subst e;rw[aE (by rw[eA];omega),aI (by omega),aI (by omega)];simp[Sp.fw]
  ·rw[aU (by omega),lQ _ _ _ j hj];by_cases e0:j=0
   ·rw[aJ e0,aJ e0]
   ·by_cases e1:j=1
    ·rw[aI e0,aJ e1,aI e0,aJ e1]
    ·rw[aI e0,aI e1,aI e0,aI e1];unfold Sp.fw;rw[aI (by omega)]
 ·rw[aR (by simp[dG];omega),aR (by rw[eA];omega)]
section
variable {c : Bool} {w : bD} {b : Nat} {t t' : T}
theorem Tb.there (h:Tb c w b t)(n:Nat)(hn:n<6)(k:Nat)(hk:k=23):w.there b (n*23) k:=by
 obtain⟨C,h1,h2⟩:=h.cv;intro j hj;exact⟨by rw[au h1,Array.getElem?_eq_getElem (by omega)];rfl,bf h1 _⟩
theorem Tb.store (h:Tb c w b t)(n:Nat)(hn:n<6)(hh:Bool)(p:Int)(f:Nat->Int):(storeCells ⟨b,n*23,none⟩ (dG hh p f).toList).run Tryz.prog w= .ok () (w.setCells b (n*23) (dG hh p f).toList):=by
 have ht:=h.there n hn 23 rfl;have hs:=qw hh p f;have:=run_storeCells_cells (P:=Tryz.prog) b (n*23) (dG hh p f).toList 0 w
  (fun j hj=>by simpa using(ht j (by omega)).1) (fun j hj=>by simpa using(ht j (by omega)).2)
  (fun v hv=>(Array.all_eq_true_iff_forall_mem.1 (qe hh p f)) v (by simpa using hv))
 simp only[Nat.add_zero]at this;exact this
theorem Tb.vx (h:Tb c w b t)(n:Nat)(hn:n<6)(hh:Bool)(p:Int)(f:Nat->Int)(g:Nat->Nat)(hf: ∀q,q<21->f q=cw c hh (g q)):
  Tb c (w.setCells b (n*23) (dG hh p f).toList) b {t with here:=Sp.lB t.here n hh,par:=Sp.fw t.par n p,ay:=fun a q=>if a=n then g q else t.ay a q}:=by
 obtain⟨C,h1,h2⟩:=h.cv;have ht:=h.there n hn 23 rfl;have hs:=qw hh p f;obtain⟨C',k1,k2⟩:=dR b (dG hh p f).toList (n*23) w C h1;have hin: ∀j,j<23->(w.setCells b (n*23) (dG hh p f).toList).cell? ⟨b,n*23+j,none⟩=(dG hh p f)[j]? :=fun j hj=>by
  rw[aS b (dG hh p f).toList (n*23) w (fun i hi=>(ht i (by omega)).1) j (by omega),<-aM,aW (by omega)]
 have hout: ∀i,i<n*23\/n*23+23<=i->(w.setCells b (n*23) (dG hh p f).toList).cell? ⟨b,i,none⟩=w.cell? ⟨b,i,none⟩:=fun i hi=>by
  refine aA b _ (n*23) w ⟨b,i,none⟩ (fun _ _=>?_);rw[hs];exact hi
 refine⟨⟨C',k1,by omega⟩,fq (fun m hm=>?_) (fun m hm=>?_) (fun m q hm hq=>?_) (fun y hy=>?_)⟩
 ·rw[cr c _ m hm];by_cases e:m=n
  ·subst e;have:=hin 0 (by omega);rw[lQ _ _ _ 0 (by omega)]at this;rw[Nat.add_zero]at this;rw[this];simp[Sp.lB]
  ·rw[hout _ (by omega),h.zr m hm];simp[Sp.lB,e]
 ·rw[cG c _ m hm];by_cases e:m=n
  ·subst e;rw[hin 1 (by omega),lQ _ _ _ 1 (by omega)];simp[Sp.fw]
  ·rw[hout _ (by omega),h.sV m hm];simp[Sp.fw,e]
 ·rw[cH c _ m q hm hq];by_cases e:m=n
  ·subst e;rw[show m*23+2+q=m*23+(2+q)by omega,hin (2+q) (by omega),lQ _ _ _ (2+q) (by omega),aI (by omega),aI (by omega),show 2+q-2=q by omega,hf q hq];simp[Sp.lB]
  ·rw[hout _ (by omega),h.EU m q hm hq];simp[Sp.lB,e]
 ·rw[dj,hout _ (by omega),h.OD y hy]
end
theorem dK (b:Nat)(z:Int)(t:T)(w:bD)(h:Tb true w b t):Calls Tryz.prog 136 #[.pointer (some ⟨b,0,none⟩), .int .i64 z] w fun e w'=>e= .returned (aq (Sp.bj t z))/\w'=w:=by
 by_cases k:z<0\/6<=z
 ·have e:Hid (Sp.bj t z=1):=hZ (aJ k);by_cases h0:z<0
  ·clear k;go_in
   go_wp2
   go_ret
   rw[e.out];exact⟨rfl,rfl⟩
  ·have h1:decide (z<0)=false:=by simp;omega
   have h2:6<=z:=by omega
   clear k h0;go_in
   go_wp2
   go_ret
   rw[e.out];exact⟨rfl,rfl⟩
 ·obtain⟨n,rfl⟩:=aG (show 0<=z by omega);have hn:n<6:=by omega
  have h1:(n:Int)<6:=by omega
  have h2:decide (6<=(n:Int))=false:=by simp;omega
  have c0:=h.zr n hn;cases hh:t.here n
  ·have e:Hid (Sp.bj t n=2):=hZ (by unfold Sp.bj;rw[aI k,hU,hh];rfl);rw[hh]at c0;clear k hh h;go_in
   go_wp2
   go_ret
   rw[e.out];exact⟨rfl,rfl⟩
  ·have e:Hid (Sp.bj t n=0):=hZ (by unfold Sp.bj;rw[aI k,hU,hh];rfl);rw[hh]at c0;clear k hh h;go_in
   go_wp2
   go_ret
   rw[e.out];exact⟨rfl,rfl⟩
theorem kZ (z:Int)(w:bD):Calls Tryz.prog 215 #[.int .i64 z] w fun e w'=>e= .returned (aq (Sp.jM z))/\w'=w:=by
 by_cases k:z<0\/20<=z
 ·have e:Hid (Sp.jM z=1):=hZ (aJ k);by_cases h0:z<0
  ·clear k;go_in
   go_wp2
   go_ret
   rw[e.out];exact⟨rfl,rfl⟩
  ·have h1:decide (z<0)=false:=by simp;omega
   have h2:20<=z:=by omega
   clear k h0;go_in
   go_wp2
   go_ret
   rw[e.out];exact⟨rfl,rfl⟩
 ·have e:Hid (Sp.jM z=0):=hZ (aI k);have h1:decide (z<0)=false:=by simp;omega
  have h2:decide (20<=z)=false:=by simp;omega
  clear k;go_in
  go_wp2
  go_ret
  rw[e.out];exact⟨rfl,rfl⟩
theorem jw (b:Nat)(z x:Int)(t:T)(w:bD)(h:Tb true w b t):Calls Tryz.prog 220 #[.pointer (some ⟨b,0,none⟩), .int .i64 z, .int .i64 x] w fun e w'=>e= .returned (aq (Sp.gM t z x))/\w'=w:=by
 have HF:=hZ h;by_cases k:Sp.bj t z=0
 ·have HK:=hZ k;have HE:Hid (Sp.gM t z x=Sp.jM x):=hZ (aJ k);clear h k;go_in
  go_wp2_with fail
  refine(dK b z t _ HF.out).mono ?_;rintro e w1 ⟨rfl,hw⟩;subst w1;rw[HK.out,aa];go_wp2_with fail
  refine(kZ x _).mono ?_;rintro e w1 ⟨rfl,hw⟩;subst w1;go_wp2
  go_ret
  rw[HE.out];exact⟨rfl,rfl⟩
 ·have HE:Hid (Sp.gM t z x=Sp.bj t z):=hZ (aI k);have HN:=hZ k;clear h k;go_in
  go_wp2_with fail
  refine(dK b z t _ HF.out).mono ?_;rintro e w1 ⟨rfl,hw⟩;subst w1;rw[aj HN.out];go_wp2
  go_ret
  rw[HE.out,aj HN.out];exact⟨rfl,rfl⟩
theorem tV (n:Nat):((n:Int)== -1)=false:=by simp
theorem yr (b n:Nat)(t:T)(d:Nat->Nat)(w:bD)(h:Tb true w b t)(hT:Sp.Tree t d)(hn:n<6)(hh:t.here n=true):
  Calls Tryz.prog 218 #[.pointer (some ⟨b,0,none⟩), .int .i64 n] w fun e w'=>e= .returned (.int .i64 (((Sp.W t n).length:Nat):Int))/\w'=w:=by
 have HF:=hZ h;have HT:=hZ hT;have HL:Hid ((Sp.W t n).length<=4):=hZ (by rw[hT.len hn hh];exact(hT.le n hn hh).2);have HH:=hZ hh;clear h hT hh;go_in
 go_wp2_with fail
 go_loopw [5,6] (fun s i wr=> ∃(k:Nat) (z:Int),s= .int .i64 k/\i= .int .i64 z/\wr=w/\Hid (k+(Sp.W t z).length=(Sp.W t n).length/\(z= -1\/ ∃m:Nat,z=m/\m<6/\t.here m=true))) (fun _ i _=>(Sp.W t (intOf i)).length)
 case atStart=>exact⟨0,n,rfl,rfl,rfl,by omega, .inr ⟨n,rfl,hn,HH.out⟩⟩
 case round=>
  obtain⟨k,z,rfl,rfl,hw,HN⟩:=hrel;subst wr;rcases HN.out.2 with rfl|⟨m,rfl,hm,hmh⟩
  ·have HE:Hid (k=(Sp.W t n).length):=hZ (by have:=HN.out.1;rw[Sp.mf t (-1) (by omega)]at this;simpa using this);go_wp2
   go_ret
   rw[<-HE.out];exact⟨rfl,rfl⟩
  ·have HMH:=hZ hmh;have ST:=hZ (HT.out.step hm hmh);have PC:=hZ (HT.out.fH hm hmh);have c1:=HF.out.sV m hm;have hmI:(m:Int)<6:=by omega
   have hne:=tV m;have hk4:k<=4:=by have:=HN.out.1;have:=HL.out;omega
   clear hmh;go_wp2
   go_roundw
   case rel=>
    refine⟨k+1,t.par m,by go_num,by first|rfl|trivial,by first|rfl|trivial,?_,?_⟩
    ·have:=HN.out.1;rw[ST.out,List.length_cons]at this;omega
    ·rcases PC.out with⟨_,e,_⟩|⟨p,p1,p2,p3,_⟩
     ·exact .inl e
     ·exact .inr ⟨p,p2,p1,p3⟩
   case measure=>
    simp only[intOf];rw[ST.out,List.length_cons];omega
theorem Ae (b:Nat)(x:Int)(t:T)(w:bD)(h:Tb true w b t):Calls Tryz.prog 137 #[.pointer (some ⟨b,0,none⟩), .int .i64 x] w fun e w'=>e= .returned (.tuple #[.int .i64 (Sp.cQ t x:Int),aq (Sp.kF t x)])/\w'=w:=by
 by_cases k:Sp.jM x=0
 ·have HK:=hZ k;obtain⟨n,rfl,hn⟩:=Sp.vJ k;have hnI:(n:Int)<20:=by omega
  have c:=h.LJ n hn;by_cases o:t.of n=0
  ·have HE:Hid (Sp.kF t n=2):=hZ (by unfold Sp.kF;rw[aJ k,hU,aJ o]);have HN:Hid (Sp.cQ t n=0):=hZ (by unfold Sp.cQ;rw[HE.out];rfl);rw[o]at c;have c':w.cell? ⟨b,138+n,none⟩=some (.int .i64 (-1)):=c;clear h k o c;go_in
   go_wp2_with fail
   refine(kZ _ _).mono ?_;rintro e w1 ⟨rfl,hw⟩;subst w1;rw[HK.out,aa];go_wp2
   go_ret2
   rw[HE.out,HN.out];exact⟨rfl,rfl⟩
  ·have HE:Hid (Sp.kF t n=0):=hZ (by unfold Sp.kF;rw[aJ k,hU,aI o]);have HN:Hid ((Sp.cQ t n:Int)=(t.of n:Int)-1):=hZ (by unfold Sp.cQ;rw[HE.out,aJ rfl,hU];omega);obtain⟨v,hv⟩:=nJ ((t.of n:Int)-1);have v0:(v== -1)=false:=by simp;omega
   rw[hv]at c HN;clear h k o hv;go_in
   go_wp2_with fail
   refine(kZ _ _).mono ?_;rintro e w1 ⟨rfl,hw⟩;subst w1;rw[HK.out,aa];go_wp2
   go_ret2
   rw[HE.out,HN.out];exact⟨rfl,rfl⟩
 ·have HE:Hid (Sp.kF t x=Sp.jM x):=hZ (by unfold Sp.kF;rw[aI k]);have HN:Hid (Sp.cQ t x=0):=hZ (by unfold Sp.cQ;rw[HE.out,aI k]);have HW:=hZ k;clear h k;go_in
  go_wp2_with fail
  refine(kZ _ _).mono ?_;rintro e w1 ⟨rfl,hw⟩;subst w1;rw[aj HW.out];go_wp2
  go_ret2
  rw[HE.out,HN.out,aj HW.out];exact⟨rfl,rfl⟩
def Oc (f:Nat->Int)(n:Nat)(v r:Int):Prop:=(∃i:Nat,i<n/\f i=v/\(∀j,j<i->f j≠v)/\r=i)\/((∀i,i<n->f i≠v)/\r= -1)
theorem yP (b o n cap:Nat)(f:Nat->Int)(v:Int)(w:bD)(h: ∀i,i<n->w.cell? ⟨b,o+i,none⟩=some (.int .i64 (f i)))(hn:n<=1000):
  Calls Tryz.prog 268 #[.slice (some ⟨b,o,none⟩) n cap, .int .i64 v] w fun e w'=> ∃r,e= .returned (.int .i64 r)/\Oc f n v r/\w'=w:=by
 have H:=hZ h;clear h;go_in
 go_wp2_with fail
 go_loopw [8] (fun i wr=> ∃(k:Nat),i= .int .i64 k/\k<=n/\wr=w/\Hid (∀j,j<k->f j≠v)) (fun i _=>n-(intOf i).toNat)
 case atStart=>exact⟨0,rfl,by omega,rfl,fun j hj=>by omega⟩
 case round=>
  obtain⟨k,rfl,hk,hw,HN⟩:=hrel;subst wr;by_cases hlt:k<n
  ·have hltI:(k:Int)<(n:Int):=by omega
   have cc:=H.out k hlt;by_cases e:f k=v
   ·have HE:=hZ e;rw[e]at cc;clear e;go_wp2
    go_ret
    exact⟨_,rfl, .inl ⟨k,hlt,HE.out,HN.out,rfl⟩,rfl⟩
   ·have HE:=hZ e;generalize hf:f k=u at*;have HU:=hZ hf;have e1:(v==u)=false:=by simp;exact fun c=>HE.out c.symm
    clear e hf;go_wp2
    go_roundw
    case rel=>exact⟨k+1,by go_num,by omega,by first|rfl|trivial,fun j hj=>by
     by_cases c:j=k
     ·rw[c,HU.out];exact HE.out
     ·exact HN.out j (by omega)⟩
    case measure=>simp[intOf];omega
  ·have hltI: ¬(k:Int)<(n:Int):=by omega
   go_wp2
   go_ret
   exact⟨_,rfl, .inr ⟨fun i hi=>HN.out i (by omega),rfl⟩,rfl⟩
theorem Tb.row (w:bD)(b n:Nat)(t:T)(h:Tb true w b t)(hn:n<6)(hh:t.here n=true): ∀i,i<21->w.cell? ⟨b,n*23+2+i,none⟩=some (.int .i64 ((t.ay n i:Int)-1)):=fun i hi=>h.JZ n i hn hi hh
def r8 (t:T)(n x:Nat):Int:=if Sp.gv t n x=0 then -1 else(Sp.gv t n x:Int)
theorem LZ {t:T}{n x:Nat}{r:Int}(h0:t.ay n 0=0)(h:Oc (fun i=>(t.ay n i:Int)-1) 21 x r):r=r8 t n x:=by
 unfold r8 Sp.gv;rcases h with⟨i,hi,e,hl,rfl⟩|⟨hl,rfl⟩
 ·have e':(t.ay n i:Int)-1=x:=e;rw[Sp.tW (P:=Sp.rK t n x) hi (by unfold Sp.rK;simp;omega) (fun j hj=>by have:(t.ay n j:Int)-1≠x:=hl j hj;unfold Sp.rK;simp;omega)];grind
 ·rw[Sp.CJ (P:=Sp.rK t n x) (fun j hj=>by have:(t.ay n j:Int)-1≠x:=hl j hj;unfold Sp.rK;simp;omega)];rfl
theorem xD (b n x:Nat)(t:T)(w:bD)(h:Tb true w b t)(hn:n<6)(hh:t.here n=true)(h0:t.ay n 0=0):
  Calls Tryz.prog 222 #[.pointer (some ⟨b,n*23,none⟩), .int .i64 x] w fun e w'=>e= .returned (.int .i64 (r8 t n x))/\w'=w:=by
 have HR:=hZ (Tb.row w b n t h hn hh);have H0:=hZ h0;clear h hh h0;go_in
 go_wp2_with fail
 refine(yP b (n*23+2) 21 21 (fun i=>(t.ay n i:Int)-1) x _ HR.out (by omega)).mono ?_;rintro e w1 ⟨r,rfl,hi,hw⟩;subst w1;rw[LZ H0.out hi];clear hi;go_wp2
 go_ret
 exact⟨rfl,rfl⟩
theorem J8 (b n:Nat)(t:T)(w:bD)(h:Tb true w b t)(hn:n<6)(hh:t.here n=true)(hr: ∃p,1<=p/\p<21/\t.ay n p=0):
  Calls Tryz.prog 221 #[.pointer (some ⟨b,n*23,none⟩)] w fun e w'=>e= .returned (.int .i64 (Sp.low t n:Int))/\w'=w:=by
 have HR:Hid (∀i,i<20->w.cell? ⟨b,n*23+3+i,none⟩=some (.int .i64 ((t.ay n (i+1):Int)-1))):=hZ (fun i hi=>by
  have:=Tb.row w b n t h hn hh (i+1) (by omega);rw[show n*23+2+(i+1)=n*23+3+i by omega]at this;exact this)
 have HX:=hZ hr;clear h hh hr;go_in
 go_wp2_with fail
 refine(yP b (n*23+3) 20 20 (fun i=>(t.ay n (i+1):Int)-1) (-1) _ HR.out (by omega)).mono ?_;rintro e w1 ⟨r,rfl,hi,hw⟩;subst w1;obtain⟨k,hk,rfl,hlow⟩: ∃k:Nat,k<20/\r=k/\Sp.low t n=k+1:=by
  rcases hi with⟨i,hi,e,hl,rfl⟩|⟨hl,rfl⟩
  ·have e':(t.ay n (i+1):Int)-1= -1:=e;exact⟨i,hi,rfl,Sp.N4 (by omega) (by omega) (by omega) (fun q q1 q2 c=>by
    have:(t.ay n (q-1+1):Int)-1≠ -1:=hl (q-1) (by omega);rw[show q-1+1=q by omega,c]at this;exact this rfl)⟩
  ·obtain⟨p,p1,p2,p3⟩:=HX.out;have:(t.ay n (p-1+1):Int)-1≠ -1:=hl (p-1) (by omega);rw[show p-1+1=p by omega,p3]at this;exact aZ rfl this
 have HL:=hZ hlow;clear hi hlow;have hk':(k:Int)<20:=by omega
 go_wp2
 go_ret
 rw[HL.out];refine⟨?_,rfl⟩;go_num
theorem J7 (b:Nat)(x z:Int)(t:T)(w:bD)(h:Tb true w b t)(h0: ∀n,n<6->t.ay n 0=0):
  Calls Tryz.prog 147 #[.pointer (some ⟨b,0,none⟩), .int .i64 x, .int .i64 z] w fun e w'=>e= .returned (.tuple #[.int .i64 (Sp.js t x z:Int),aq (Sp.u7 t x z)])/\w'=w:=by
 have HF:=hZ h;have H0:=hZ h0;by_cases k:Sp.gM t z x=0
 ·have HK:=hZ k;obtain⟨n,y,rfl,rfl,hn,hy,hh⟩:=Sp.qO k;have HH:=hZ hh;have hnI:(n:Int)<6:=by omega
  have HE:Hid (Sp.u7 t y n=if Sp.gv t n y=0 then 2 else 0):=hZ (by unfold Sp.u7;rw[aJ k,hU,hU]);have HN:Hid (Sp.js t y n=Sp.gv t n y):=hZ (by
   unfold Sp.js;rw[HE.out];by_cases c:Sp.gv t n y=0
   ·rw[aJ c,aI (by decide),c]
   ·rw[aI c,aJ rfl,hU,hU])
  clear h h0 k hh;go_in
  go_wp2_with fail
  refine(jw b n y t _ HF.out).mono ?_;rintro e w1 ⟨rfl,hw⟩;subst w1;rw[HK.out,aa];go_wp2_with fail
  refine(xD b n y t _ HF.out hn HH.out (H0.out n hn)).mono ?_;rintro e w1 ⟨rfl,hw⟩;subst w1;unfold r8;by_cases c:Sp.gv t n y=0
  ·have HC:=hZ c;rw[aJ c];clear c;go_wp2
   go_ret2
   rw[HE.out,HN.out,HC.out];exact⟨rfl,rfl⟩
  ·have HC:=hZ c;rw[aI c];generalize hp:Sp.gv t n y=p at*;have hp1:decide ((p:Int)<1)=false:=by simp;omega
   clear c hp;go_wp2
   go_ret2
   rw[HE.out,HN.out,aI HC.out];exact⟨rfl,rfl⟩
 ·have HE:Hid (Sp.u7 t x z=Sp.gM t z x):=hZ (by unfold Sp.u7;rw[aI k]);have HN:Hid (Sp.js t x z=0):=hZ (by unfold Sp.js;rw[HE.out,aI k]);have HW:=hZ k;clear h k h0;go_in
  go_wp2_with fail
  refine(jw b z x t _ HF.out).mono ?_;rintro e w1 ⟨rfl,hw⟩;subst w1;rw[aj HW.out];go_wp2
  go_ret2
  rw[HE.out,HN.out,aj HW.out];exact⟨rfl,rfl⟩
theorem Ax (b:Nat)(z p:Int)(t:T)(w:bD)(h:Tb true w b t):
  Calls Tryz.prog 61 #[.pointer (some ⟨b,0,none⟩), .int .i64 z, .int .i64 p] w fun e w'=>e= .returned (.tuple #[.int .i64 (Sp.dZ t z p:Int),aq (Sp.fN t z p)])/\w'=w:=by
 have HF:=hZ h;by_cases k:Sp.bj t z=0
 ·have HK:=hZ k;obtain⟨n,rfl,hn,hh⟩:=Sp.mA k;have hnI:(n:Int)<6:=by omega
  by_cases hp:p<1\/20<p
  ·have HE:Hid (Sp.fN t n p=2):=hZ (by unfold Sp.fN;rw[aJ k,aJ (by omega)]);have HN:Hid (Sp.dZ t n p=0):=hZ (by unfold Sp.dZ;rw[HE.out];rfl);by_cases p1:p<1
   ·clear h k hh hp;go_in
    go_wp2_with fail
    refine(dK b n t _ HF.out).mono ?_;rintro e w1 ⟨rfl,hw⟩;subst w1;rw[HK.out,aa];go_wp2
    go_ret2
    rw[HE.out,HN.out];exact⟨rfl,rfl⟩
   ·have p1':decide (p<1)=false:=by simp;omega
    have p2:21<=p:=by omega
    clear h k hh hp p1;go_in
    go_wp2_with fail
    refine(dK b n t _ HF.out).mono ?_;rintro e w1 ⟨rfl,hw⟩;subst w1;rw[HK.out,aa];go_wp2
    go_ret2
    rw[HE.out,HN.out];exact⟨rfl,rfl⟩
  ·obtain⟨q,rfl⟩:=aG (show 0<=p by omega);have cc:=h.JZ n q hn (by omega) hh;have q1:decide ((q:Int)<1)=false:=by simp;omega
   have q2:decide (21<=(q:Int))=false:=by simp;omega
   have q3:(q:Int)<21:=by omega
   by_cases c:t.ay n q=0
   ·have HE:Hid (Sp.fN t n q=2):=hZ (by unfold Sp.fN;rw[aJ k,hU,hU,aJ (.inr (.inr c))]);have HN:Hid (Sp.dZ t n q=0):=hZ (by unfold Sp.dZ;rw[HE.out];rfl);rw[c]at cc;have cc':w.cell? ⟨b,n*23+2+q,none⟩=some (.int .i64 (-1)):=cc;clear h k hh hp c cc;go_in
    go_wp2_with fail
    refine(dK b n t _ HF.out).mono ?_;rintro e w1 ⟨rfl,hw⟩;subst w1;rw[HK.out,aa];go_wp2
    go_ret2
    rw[HE.out,HN.out];exact⟨rfl,rfl⟩
   ·have HE:Hid (Sp.fN t n q=0):=hZ (by unfold Sp.fN;rw[aJ k,hU,hU,aI (by omega)]);have HN:Hid ((Sp.dZ t n q:Int)=(t.ay n q:Int)-1):=hZ (by unfold Sp.dZ;rw[HE.out,aJ rfl,hU,hU];omega);obtain⟨v,hv⟩:=nJ ((t.ay n q:Int)-1);have v0:(v== -1)=false:=by simp;omega
    rw[hv]at cc HN;clear h k hh hp c hv;go_in
    go_wp2_with fail
    refine(dK b n t _ HF.out).mono ?_;rintro e w1 ⟨rfl,hw⟩;subst w1;rw[HK.out,aa];go_wp2
    go_ret2
    rw[HE.out,HN.out];exact⟨rfl,rfl⟩
 ·have HE:Hid (Sp.fN t z p=Sp.bj t z):=hZ (by unfold Sp.fN;rw[aI k]);have HN:Hid (Sp.dZ t z p=0):=hZ (by unfold Sp.dZ;rw[HE.out,aI k]);have HW:=hZ k;clear h k;go_in
  go_wp2_with fail
  refine(dK b z t _ HF.out).mono ?_;rintro e w1 ⟨rfl,hw⟩;subst w1;rw[aj HW.out];go_wp2
  go_ret2
  rw[HE.out,HN.out,aj HW.out];exact⟨rfl,rfl⟩
def bR (t:T)(n k:Nat):List Nat:=((List.range k).filter (Sp.iq t n)).map (fun p=>t.ay n p-1)
theorem Kh {t:T}{n k:Nat}(h:t.ay n k≠0):bR t n (k+1)=bR t n k++[t.ay n k-1]:=by
 unfold bR;rw[List.range_succ,List.filter_append,List.map_append];simp[Sp.iq,h]
theorem MK {t:T}{n k:Nat}(h:t.ay n k=0):bR t n (k+1)=bR t n k:=by
 unfold bR;rw[List.range_succ,List.filter_append,List.map_append];simp[Sp.iq,h]
theorem Ke (t:T)(n k:Nat):(bR t n k).length<=k:=by
 have:=bW (Sp.iq t n) (List.range k);simpa[bR]using this
def pS (t:T)(n:Nat):List Value:=(List.range 21).map (fun p=>Value.int .i64 ((t.ay n p:Int)-1))
theorem Ag (t:T)(n:Nat):(pS t n).length=21:=by simp[pS]
theorem Tb.NG {w:bD}{b n:Nat}{t:T}(h:Tb true w b t)(hn:n<6)(hh:t.here n=true):w.rangeAt b (n*23+2) (pS t n):=fun j v hv=>by
 have hj:j<21:=by have:=(aY.1 hv).1;rwa [Ag]at this
 rw[h.JZ n j hn hj hh];simp[pS,hj]at hv;rw[hv]
theorem D9 (t:T)(n k:Nat)(hk:k<21)(w:bD):Sem.run Tryz.prog (Instr.index 175 (Value.agg (pS t n).toArray) (Value.int IntKind.i64 k)) w= .ok (.int .i64 ((t.ay n k:Int)-1)) w:=by
 have hu:Tryz.prog.underlying 175=some (.array 21 3):=by kernel_rfl
 have h1:(k:Int)<21:=by omega
 have hx:(pS t n)[k]? =some (.int .i64 ((t.ay n k:Int)-1)):=by simp[pS,hk]
 simp[Instr.index,Sem.run_bind,run_underlying hu,go_sem,hx,hk]
theorem uk (b n:Nat)(t:T)(w:bD)(h:Tb true w b t)(hn:n<6)(hh:t.here n=true):
  Calls Tryz.prog 224 #[.pointer (some ⟨b,n*23,none⟩)] w fun e w'=> ∃v,e= .returned v/\LO w (Sp.eO t n) v w':=by
 obtain⟨i0,hi,hz0,hz1,hz2⟩:=info_parts vG;have HR:=hZ (h.NG hn hh);have hsz:Hid ((Tryz.prog.info? 175).map (·.size)=some (pS t n).length):=hZ (by rw[Ag];kernel_rfl);clear h hh;go_in
 go_wp2_with (refine wpList_load_mid rfl 175 _ rfl b (n*23+2) rfl (pS t n) (.array 21 3) HR.out (by kernel_rfl) rfl hsz.out ?_)
 go_loopw [3,10] (fun l i wr=> ∃(k:Nat),i= .int .i64 k/\k<=21/\Hid (LO w (bR t n k) l wr)) (fun _ i _=>21-(intOf i).toNat)
 case atStart=>exact⟨0,rfl,by omega,LO.nil w⟩
 case round=>
  obtain⟨k,rfl,hk,R⟩:=hrel;by_cases hlt:k<21
  ·have hltI:(k:Int)<21:=by omega
   have hix:=D9 t n k hlt wr;by_cases c:t.ay n k=0
   ·have HM:=hZ (MK c);rw[c]at hix;have hix':Sem.run Tryz.prog (Instr.index 175 (Value.agg (pS t n).toArray) (Value.int IntKind.i64 k)) wr= .ok (.int .i64 (-1)) wr:=hix;clear c hix;go_wp2
    go_roundw
    case rel=>exact⟨k+1,by go_num,by omega,by rw[HM.out];exact R⟩
    case measure=>simp[intOf];omega
   ·have HM:=hZ (Kh c);obtain⟨x,hx⟩:=nJ (t.ay n k-1);rw[hx]at HM;rw[show(t.ay n k:Int)-1=(x:Int)by omega]at hix;have hne:=tV x;obtain⟨a,cap,hv⟩:=fC R.out.own;rw[hv];have HV:=hZ hv;have hlm:=Ke t n k;generalize hN:(bR t n k).length=N at*;have HN:=hZ hN;clear hv hN c hx;go_wp2_with (at_builtin;refine wpList_append_lies _ rfl _ _ 46 (by rfl) w.heap.size 3 i0 (.int .i64 0) 1 8 Tryz.underlying46 hi hz0 hz1 hz2 rfl (by decide) (.slice a N cap) N (rowOf (bR t n k)) (by rfl) (by rw[<-HV.out,<-HN.out];exact R.out.own.alloc _) ⟨wr.heap.size,0,none⟩ 1 1 [.int .i64 x] (by rfl) rfl (cell_one_new _ _ _) (by simp[Value.oneCell']) (by decide) (by unfold maxLen;omega) (by omega) (by have:=R.out.bF.size;simp;omega) (wr.heap.size+1) (by simp) ?_;intro gg cap2 w1 hown hgrow hat hlt2;have Q1:Hid (LO w (bR t n k++[x]) (.slice (some ⟨gg,0,none⟩) (N+1) cap2) w1):=R.out.more HN.out hown _ (by rw[HV.out];exact hgrow);clear hown hgrow hat hlt2)
    go_roundw
    case rel=>exact⟨k+1,by go_num,by omega,by rw[HM.out];exact Q1⟩
    case measure=>simp[intOf];omega
  ·have hk21:k=21:=by omega
   subst hk21;go_wp2
   go_ret
   exact⟨_,rfl,R.out⟩
def dv (t:T)(z:Int):List Nat:=if Sp.bj t z=0 then Sp.eO t z.toNat else[]
theorem z7 (b:Nat)(z:Int)(t:T)(w:bD)(h:Tb true w b t):
  Calls Tryz.prog 155 #[.pointer (some ⟨b,0,none⟩), .int .i64 z] w fun e w'=> ∃v,e= .returned (.tuple #[v,aq (Sp.bj t z)])/\LO w (dv t z) v w':=by
 have HF:=hZ h;by_cases k:Sp.bj t z=0
 ·have HK:=hZ k;obtain⟨n,rfl,hn,hh⟩:=Sp.mA k;have HH:=hZ hh;have hnI:(n:Int)<6:=by omega
  clear h k hh;go_in
  go_wp2_with fail
  refine(dK b n t _ HF.out).mono ?_;rintro e w1 ⟨rfl,hw⟩;subst w1;rw[HK.out,aa];go_wp2_with fail
  refine(uk b n t _ HF.out hn HH.out).mono ?_;rintro e w1 ⟨v,rfl,hL⟩;have HL:=hZ hL;clear hL;go_wp2
  go_ret2
  exact⟨v,by rw[HK.out];rfl,by unfold dv;rw[aJ HK.out,hU];exact HL.out⟩
 ·have HW:=hZ k;clear h k;go_in
  go_wp2_with fail
  refine(dK b z t _ HF.out).mono ?_;rintro e w1 ⟨rfl,hw⟩;subst w1;rw[aj HW.out];go_wp2
  go_ret2
  exact⟨_,by rw[aj HW.out];rfl,by unfold dv;rw[aI HW.out];exact LO.nil w⟩
def nL (t:T)(k:Nat):List Nat:=(List.range k).filter t.here
theorem Jd {t:T}{k:Nat}(h:t.here k=true):nL t (k+1)=nL t k++[k]:=by
 unfold nL;rw[List.range_succ,List.filter_append];simp[h]
theorem LY {t:T}{k:Nat}(h:t.here k=false):nL t (k+1)=nL t k:=by
 unfold nL;rw[List.range_succ,List.filter_append];simp[h]
theorem Jo (t:T)(k:Nat):(nL t k).length<=k:=by
 have:=bW t.here (List.range k);simpa[nL]using this
theorem MZ (b:Nat)(t:T)(w:bD)(h:Tb true w b t):
  Calls Tryz.prog 74 #[.pointer (some ⟨b,0,none⟩)] w fun e w'=> ∃v,e= .returned v/\LO w (Sp.all t) v w':=by
 obtain⟨i0,hi,hz0,hz1,hz2⟩:=info_parts vG;have H:=hZ h;clear h;go_in
 go_wp2_with fail
 go_loopw [3,5] (fun l i wr=> ∃(k:Nat),i= .int .i64 k/\k<=6/\Hid (LO w (nL t k) l wr)) (fun _ i _=>6-(intOf i).toNat)
 case atStart=>exact⟨0,rfl,by omega,LO.nil w⟩
 case round=>
  obtain⟨k,rfl,hk,R⟩:=hrel;by_cases hlt:k<6
  ·have hltI:(k:Int)<6:=by omega
   have c0:=(H.out.below R.out.bF).zr k hlt;cases hth:t.here k
   ·have HM:=hZ (LY hth);rw[hth]at c0;clear hth;go_wp2
    go_roundw
    case rel=>exact⟨k+1,by go_num,by omega,by rw[HM.out];exact R⟩
    case measure=>simp[intOf];omega
   ·have HM:=hZ (Jd hth);rw[hth]at c0;obtain⟨a,cap,hv⟩:=fC R.out.own;rw[hv];have HV:=hZ hv;have hlm:=Jo t k;generalize hN:(nL t k).length=N at*;have HN:=hZ hN;clear hv hN hth;go_wp2_with (at_builtin;refine wpList_append_lies _ rfl _ _ 46 (by rfl) w.heap.size 3 i0 (.int .i64 0) 1 8 Tryz.underlying46 hi hz0 hz1 hz2 rfl (by decide) (.slice a N cap) N (rowOf (nL t k)) (by rfl) (by rw[<-HV.out,<-HN.out];exact R.out.own.alloc _) ⟨wr.heap.size,0,none⟩ 1 1 [.int .i64 k] (by rfl) rfl (cell_one_new _ _ _) (by simp[Value.oneCell']) (by decide) (by unfold maxLen;omega) (by omega) (by have:=R.out.bF.size;simp;omega) (wr.heap.size+1) (by simp) ?_;intro gg cap2 w1 hown hgrow hat hlt2;have Q1:Hid (LO w (nL t k++[k]) (.slice (some ⟨gg,0,none⟩) (N+1) cap2) w1):=R.out.more HN.out hown _ (by rw[HV.out];exact hgrow);clear hown hgrow hat hlt2)
    go_roundw
    case rel=>exact⟨k+1,by go_num,by omega,by rw[HM.out];exact Q1⟩
    case measure=>simp[intOf];omega
  ·have hk6:k=6:=by omega
   subst hk6;go_wp2
   go_ret
   exact⟨_,rfl,R.out⟩
def eG (k i:Nat):Int:=if i<k then -1 else 0
theorem Ox (k:Nat):Sp.fw (eG k) k (-1)=eG (k+1):=by
 funext i;unfold Sp.fw eG;by_cases e:i=k
 ·rw[aJ e,aJ (by omega)]
 ·rw[aI e];by_cases c:i<k
  ·rw[aJ c,aJ (by omega)]
  ·rw[aI c,aI (by omega)]
section
variable {ops : Array Oper} {rest : List Oper} {x : Oper} {a : Act} {w : bD} {Q : Exit -> Act -> bD -> Prop}
theorem jO (hgd:x.guard=none)(ho:x.op= .alloc 177)(h:wpList Tryz.prog ops Q rest (a.put x.dst (.pointer (some ⟨w.heap.size,0,none⟩))) (w.alloc (.cells (dG false 0 (eG 0)) 177))):wpList Tryz.prog ops Q (x::rest) a w:=
 wpList_plain hgd fun _ hK=>by
  unfold Oper.wp execOp;simp only[ho];simp[go_sem];exact hK _ _ h
theorem vr (hgd:x.guard=none)(ho:x.op= .build 177 #[])(h:wpList Tryz.prog ops Q rest (a.put x.dst (.agg (dG false 0 (eG 0)))) w):wpList Tryz.prog ops Q (x::rest) a w:=
 wpList_plain hgd fun _ hK=>by
  unfold Oper.wp execOp;simp only[ho];simp[go_sem];exact hK _ _ h
theorem vh (hgd:x.guard=none)(y:Operand)(p:Int)(ho:x.op= .build 177 #[(0, .const (.bool true)),(1,y)])(hy:a.eval y= .int .i64 p)(h:wpList Tryz.prog ops Q rest (a.put x.dst (.agg (dG true p (eG 0)))) w):wpList Tryz.prog ops Q (x::rest) a w:=
 wpList_plain hgd fun _ hK=>by
  unfold Oper.wp execOp;simp only[ho,List.map_toArray,List.map_cons,List.map_nil,hy,BigFrame.eval_const];simp[go_sem];exact hK _ _ h
