import Derived.Deep.CutBlock
import Derived.Deep.DeepCutAuto
import Derived.Test.YtpmmdkcfenjiaaaGreatDoorUab
set_option maxRecDepth 100000
set_option maxHeartbeats 1000000
set_option linter.unusedVariables false
set_option linter.unusedSimpArgs false
namespace Go.Proofs.YtpmmdkcfenjiaaaGreatDoor
open Value renaming int->aa,pointer->ai,tuple->ao,iface->aq,bool->ar,agg->au,nilIface->ay
open IntKind renaming i64->az
open Ending renaming returned->bf
open Obj renaming cells->bg
open Option renaming some->bh,none->bj
open Tryz (prog)
open Go.RowKit
def vV(n:Nat)(f:Nat->Int):Array Value:=((List.range n).map λi=>aa az (f i)).toArray
def r8(n:Nat)(g:Nat->Bool):Array Value:=((List.range n).map λi=>ar (g i)).toArray
def Dk(f:Nat->Int)(i:Nat)(v:Int):Nat->Int:=λj=>if j=i then v else f j
def uH(g:Nat->Bool)(i:Nat)(v:Bool):Nat->Bool:=λj=>if j=i then v else g j
theorem Ko(f:Nat->Int)(i:Nat)(v:Int):Dk f i v i=v:=by simp[Dk]
theorem Qs(f:Nat->Int)(i:Nat)(v:Int)(j:Nat)(h:j≠i):Dk f i v j=f j:=by simp[Dk,h]
theorem Km(f:Nat->Bool)(i:Nat)(v:Bool):uH f i v i=v:=by simp[uH]
theorem Qr(f:Nat->Bool)(i:Nat)(v:Bool)(j:Nat)(h:j≠i):uH f i v j=f j:=by simp[uH,h]
theorem En(n:Nat)(f:Nat->Int)(i:Nat)(h:i<n):(vV n f)[i]? =bh (aa az (f i)):=by simp[vV,h]
theorem yN(n:Nat)(g:Nat->Bool)(i:Nat)(h:i<n):(r8 n g)[i]? =bh (ar (g i)):=by simp[r8,h]
theorem TC(n:Nat)(f:Nat->Int)(i:Nat)(v:Int)(h:i<n):(vV n f).setIfInBounds i (aa az v)=vV n (Dk f i v):=by
 apply bL;intro j;rcases Nat.lt_or_ge j n with hj|hj
 .rw[En n _ j hj];by_cases e:j=i
  .subst e;rw[aE (by simp[vV,hj]),Ko]
  .rw[aU bu,En n f j hj,Qs _ _ _ _ e]
 .rw[aR (by simp[vV];omega),aR (by simp[vV];omega)]
theorem K9(n:Nat)(f:Nat->Bool)(i:Nat)(v:Bool)(h:i<n):(r8 n f).setIfInBounds i (ar v)=r8 n (uH f i v):=by
 apply bL;intro j;rcases Nat.lt_or_ge j n with hj|hj
 .rw[yN n _ j hj];by_cases e:j=i
  .subst e;rw[aE (by simp[r8,hj]),Km]
  .rw[aU bu,yN n f j hj,Qr _ _ _ _ e]
 .rw[aR (by simp[r8];omega),aR (by simp[r8];omega)]
def oc(w:bD)(b n:Nat)(T:TypeId)(f:Nat->Bool):Prop:=w.heap[b]? =bh (bg (r8 n f) T (0,0))
section
variable {w:bD}{b n:Nat}{T:TypeId}
theorem oc.cell{f:Nat->Bool}(h:oc w b n T f)(i:Nat)(hi:i<n):w.cell? ⟨b,i,bj⟩=bh (ar (f i)):=by rw[bO h,yN n f i hi]
theorem oc.frozen{f:Nat->Bool}(h:oc w b n T f)(i:Nat):w.frozen? ⟨b,i,bj⟩=false:=cv h i
theorem oc.set{f:Nat->Bool}(h:oc w b n T f)(i:Nat)(v:Bool)(hi:i<n):oc (w.setCell ⟨b,i,bj⟩ (ar v)) b n T (uH f i v):=by
 unfold oc;rw[cE h,K9 n f i v hi]
theorem oc.same{w':bD}{f:Nat->Bool}(h:oc w b n T f)(e:w'.heap[b]? =w.heap[b]?):oc w' b n T f:=e.trans h
theorem oc.lt{f:Nat->Bool}(h:oc w b n T f):b<w.heap.size:=(aX.1 h).1
end
namespace Sg
structure S1 where
 wt:Bool
 hd:Bool
 hw:Int
def fS:Nat->S1:=λ_=>⟨false,false,0⟩
def put(X:Nat->S1)(n:Nat)(x:S1):Nat->S1:=λm=>if m=n then x else X m
theorem bF(X:Nat->S1)(n:Nat)(x:S1):put X n x n=x:=aJ rfl
theorem bM(X:Nat->S1)(n:Nat)(x:S1)(m:Nat)(h:m≠n):put X n x m=X m:=aI h
theorem gA(X:Nat->S1)(n:Nat)(x y:S1):put (put X n x) n y=put X n y:=by
 funext m;unfold put;split<;>rfl
def oT(z h:Int):Bool:=decide (h=1)||(decide (z=3)&&decide (h=0))
def cD(z:Int):Int:=if z<1\/8<z then 1 else 0
def j7(z:Int):Int:=if cD z≠0 then 1 else if z=1 then 8 else 0
def jd(z h:Int):Int:=if cD z≠0 then 1 else if h<0\/2<h then 1 else if z=1 then 8 else 0
def lH(X:Nat->S1)(z:Int):Nat->S1:=if cD z=0 then put X z.toNat ⟨!oT z (X z.toNat).hw,(X z.toNat).hd,(X z.toNat).hw⟩else X
def ny(X:Nat->S1)(z:Int)(on:Bool):Nat->S1:=if j7 z=0 then put X z.toNat ⟨(X z.toNat).wt,on,(X z.toNat).hw⟩else X
def lE(X:Nat->S1)(z h:Int):Nat->S1:=if jd z h=0 then put X z.toNat ⟨(X z.toNat).wt&& !oT z h,(X z.toNat).hd,h⟩else X
def ok(X:Nat->S1)(h:Int)(n:Nat):Bool:=(X n).wt&& !(X n).hd&&decide ((X n).hw=h)
def eV(X:Nat->S1)(h:Int)(n:Nat):Prop:=(n=0/\∀j,1<=j->j<=8->ok X h j=false)\/(1<=n/\n<=8/\ok X h n=true/\∀j,1<=j->j<n->ok X h j=false)
theorem eV.unique{X:Nat->S1}{h:Int}{n m:Nat}(a:eV X h n)(b:eV X h m):n=m:=by
 rcases a with⟨a0,a1⟩|⟨a1,a2,a3,a4⟩
 .rcases b with⟨b0,_⟩|⟨b1,b2,b3,_⟩
  .omega
  .rw[a1 m b1 b2]at b3;cases b3
 .rcases b with⟨b0,b1⟩|⟨b1,b2,b3,b4⟩
  .rw[b1 n a1 a2]at a3;cases a3
  .rcases Nat.lt_trichotomy n m with c|c|c
   .rw[b4 n a1 c]at a3;cases a3
   .exact c
   .rw[a4 m b1 c]at b3;cases b3
theorem eV.le{X:Nat->S1}{h:Int}{n:Nat}(a:eV X h n):n<=8:=by
 rcases a with⟨a,_⟩|⟨_,a,_⟩<;>omega
def uz(X:Nat->S1)(n:Nat):Nat->S1:=if n=0 then X else put X n ⟨false,(X n).hd,(X n).hw⟩
def pH(X:Nat->S1):Nat->S1:=λn=>⟨false,(X n).hd,(X n).hw⟩
theorem xN{z:Int}(h:z<1\/8<z):cD z=1:=aJ h
theorem eZ{z:Int}(h1:1<=z)(h2:z<=8):cD z=0:=nJ
theorem N7{z:Int}(h:cD z=0):1<=z/\z<=8:=by
 unfold cD at h;split at h<;>omega
theorem Uk{z:Int}(h:j7 z=0):1<z/\z<=8:=by
 unfold j7 at h;by_cases c:cD z=0
 .have:=N7 c;rw[aI (λd=>d c)]at h;by_cases d:z=1
  .rw[aJ d]at h;omega
  .omega
 .rw[aJ c]at h;omega
theorem Ra{z k:Int}(h:jd z k=0):1<z/\z<=8/\0<=k/\k<=2:=by
 unfold jd at h;by_cases c:cD z=0
 .have:=N7 c;rw[aI (λd=>d c)]at h;by_cases e:k<0\/2<k
  .rw[aJ e]at h;omega
  .rw[aI e]at h;by_cases d:z=1
   .rw[aJ d]at h;omega
   .omega
 .rw[aJ c]at h;omega
def dQ(x:S1):Nat->Value
 |0=>ar x.wt
 |1=>ar x.hd
 |_=>aa az x.hw
end Sg
open Sg (S1)
structure CX (w:bD)(b:Nat)(X:Nat->S1):Prop where
 cU:∃C T,w.heap[b]? =bh (bg C T (0,0))/\C.size=24
 dQ:∀i,i<8->∀j,j<3->w.cell? ⟨b,i*3+j,bj⟩=bh (Sg.dQ (X (i+1)) j)
section
variable {w w':bD}{b:Nat}{X:Nat->S1}
theorem CX.lt(h:CX w b X):b<w.heap.size:=by
 obtain⟨C,T,e,_⟩:=h.cU;exact(aX.1 e).1
theorem CX.frozen(h:CX w b X)(o:Nat):w.frozen? ⟨b,o,bj⟩=false:=by
 obtain⟨C,T,e,_⟩:=h.cU;exact cv e o
theorem CX.same(h:CX w b X)(e:w'.heap[b]? =w.heap[b]?):CX w' b X:=by
 have hc:∀o,w'.cell? ⟨b,o,bj⟩=w.cell? ⟨b,o,bj⟩:=λo=>aV e;exact⟨by rw[e];exact h.cU,λi hi j hj=>(hc _).trans (h.dQ i hi j hj)⟩
theorem CX.drew(h:CX w b X):CX w.drew b X:=h.same rfl
theorem CX.below{B:Nat}(h:CX w b X)(k:Below B w w')(hb:b<B):CX w' b X:=h.same (k.block b hb)
theorem CX.wt(h:CX w b X)(i:Nat)(hi:i<8):w.cell? ⟨b,i*3,bj⟩=bh (ar (X (i+1)).wt):=h.dQ i hi 0 bu
theorem CX.hd(h:CX w b X)(i:Nat)(hi:i<8):w.cell? ⟨b,i*3+1,bj⟩=bh (ar (X (i+1)).hd):=h.dQ i hi 1 bu
theorem CX.hw(h:CX w b X)(i:Nat)(hi:i<8):w.cell? ⟨b,i*3+2,bj⟩=bh (aa az (X (i+1)).hw):=h.dQ i hi 2 bu
theorem CX.set(h:CX w b X)(i j:Nat)(hi:i<8)(hj:j<3)(x:S1)(hx:∀k,k<3->k≠j->Sg.dQ x k=Sg.dQ (X (i+1)) k):CX (w.setCell ⟨b,i*3+j,bj⟩ (Sg.dQ x j)) b (Sg.put X (i+1) x):=by
 obtain⟨C,T,e,hC⟩:=h.cU;refine⟨⟨_,T,cE e _ _,by simpa using hC⟩,λm hm k hk=>?_⟩;by_cases c:m=i
 .subst c;rw[Sg.bF];by_cases d:k=j
  .subst d;exact du e _ _ bu
  .rw[da e _ _ _ bu,h.dQ m hm k hk,hx k hk d]
 .rw[Sg.bM _ _ _ _ bu,da e _ _ _ bu,h.dQ m hm k hk]
theorem CX.setW(h:CX w b X)(i:Nat)(hi:i<8)(v:Bool):CX (w.setCell ⟨b,i*3,bj⟩ (ar v)) b (Sg.put X (i+1) ⟨v,(X (i+1)).hd,(X (i+1)).hw⟩):=
 h.set i 0 hi bu ⟨v,(X (i+1)).hd,(X (i+1)).hw⟩ (λk hk hn=>by match k,hk,hn with|1,_,_=>rfl|2,_,_=>rfl)
theorem CX.T7(h:CX w b X)(i:Nat)(hi:i<8)(v:Bool):CX (w.setCell ⟨b,i*3+1,bj⟩ (ar v)) b (Sg.put X (i+1) ⟨(X (i+1)).wt,v,(X (i+1)).hw⟩):=
 h.set i 1 hi bu ⟨(X (i+1)).wt,v,(X (i+1)).hw⟩ (λk hk hn=>by match k,hk,hn with|0,_,_=>rfl|2,_,_=>rfl)
theorem CX.T8(h:CX w b X)(i:Nat)(hi:i<8)(v:Int):CX (w.setCell ⟨b,i*3+2,bj⟩ (aa az v)) b (Sg.put X (i+1) ⟨(X (i+1)).wt,(X (i+1)).hd,v⟩):=
 h.set i 2 hi bu ⟨(X (i+1)).wt,(X (i+1)).hd,v⟩ (λk hk hn=>by match k,hk,hn with|0,_,_=>rfl|1,_,_=>rfl|2,_,h=>exact aZ rfl h)
end
theorem yc(b:Nat)(z:Int)(w:bD)(h1:1<=z)(h2:z<=8):
  Calls prog 173 #[ai (bh ⟨b,0,bj⟩),aa az z] w λe w'=>e=bf (ao #[ai (bh ⟨b,(z.toNat-1)*3,bj⟩),ay])/\w'=w:=by
 have:z=1\/z=2\/z=3\/z=4\/z=5\/z=6\/z=7\/z=8:=bu
 rcases this with rfl|rfl|rfl|rfl|rfl|rfl|rfl|rfl
 all_goals
  go_in
  go_wp2
  go_ret2
  exact⟨rfl,rfl⟩
theorem C7(b:Nat)(z:Int)(w:bD)(h:z<1\/8<z):
  Calls prog 173 #[ai (bh ⟨b,0,bj⟩),aa az z] w λe w'=>e=bf (ao #[ai bj,aq 100 (aa .i64 1)])/\w'=w:=by
 by_cases c:z<1
 .clear h;go_in
  go_wp2
  go_ret2
  exact⟨rfl,rfl⟩
 .have c2:8<z:=bu
  go_in
  go_wp2
  go_ret2
  exact⟨rfl,rfl⟩
theorem EB(b o:Nat)(z k:Int)(w:bD)(c:w.cell? ⟨b,o+2,bj⟩=bh (aa .i64 k)):
  Calls prog 174 #[ai (bh ⟨b,o,bj⟩),aa az z] w λe w'=>e=bf (ar (Sg.oT z k))/\w'=w:=by
 by_cases k1:k=1
 .have E:Hid (Sg.oT z k=true):=hJ (by unfold Sg.oT;simp[k1]);rw[E.v];have k1':(k==1)=true:=by simp[k1]
  go_in
  go_wp2
  go_ret
  exact⟨rfl,rfl⟩
 .have k1':(k==1)=false:=by simp[k1]
  by_cases z3:z=3
  .have E:Hid (Sg.oT z k=(k==0)):=hJ (by unfold Sg.oT;simp[k1,z3];rfl);rw[E.v];subst z3;go_in
   go_wp2
   go_ret
   exact⟨rfl,rfl⟩
  .have E:Hid (Sg.oT z k=false):=hJ (by unfold Sg.oT;simp[k1,z3]);rw[E.v];have z3':(z==3)=false:=by simp[z3]
   go_in
   go_wp2
   go_ret
   exact⟨rfl,rfl⟩
theorem Sg.AM{z:Int}(h1:1<=z)(h2:z<=8):∃i:Nat,i<8/\z.toNat=i+1/\z.toNat-1=i:=⟨z.toNat-1,bu,bu,rfl⟩
theorem wD(b:Nat)(z:Int)(X:Nat->S1)(w:bD)(h:CX w b X):
  Calls prog 98 #[ai (bh ⟨b,0,bj⟩),aa az z] w λe w'=>e=bf (bG (Sg.cD z))/\CX w' b (Sg.lH X z)/\bE b w w':=by
 have HF:=hJ h;by_cases c:z<1\/8<z
 .have E:Hid (Sg.cD z=1/\Sg.lH X z=X):=hJ ⟨Sg.xN c,aI (by rw[Sg.xN c];decide)⟩;have C:=hJ c;go_in
  go_wp2_with fail
  refine sC (C7 b z _ C.v) ?_;rintro w1 hw1;subst w1;go_wp2
  go_ret
  rw[E.1,E.2];exact⟨rfl,HF.v,bE.refl _ _⟩
 .have z1:1<=z:=bu
  have z8:z<=8:=bu
  obtain⟨i,hi,hz,hz'⟩:=Sg.AM z1 z8;have c2:=h.hw i hi;have fz:=h.frozen (i*3);have is:=h.wt i hi;have E:Hid (Sg.cD z=0/\Sg.lH X z=Sg.put X (i+1) ⟨!Sg.oT z (X (i+1)).hw,(X (i+1)).hd,(X (i+1)).hw⟩):=hJ ⟨Sg.eZ z1 z8,by unfold Sg.lH;rw[aJ (Sg.eZ z1 z8),hz]⟩;have SG:Hid (∀W,Calls prog 173 #[ai (bh ⟨b,0,bj⟩),aa az z] W λe w'=>e=bf (ao #[ai (bh ⟨b,i*3,bj⟩),ay])/\w'=W):=hJ (λW=>by
   have:=yc b z W z1 z8;rw[hz']at this;exact this)
  obtain⟨K,hK⟩:=hU ((X (i+1)).hw);rw[hK]at c2;have HK:=hJ hK;go_in
  go_wp2_with fail
  refine sC (SG.v _) ?_;rintro w1 hw1;subst w1;go_wp2_with fail
  refine sC (EB b (i*3) z K _ c2) ?_;rintro w1 hw1;subst w1;go_wp2
  go_ret
  rw[E.1,E.2];refine⟨rfl,?_,(bE.refl _ _).setCell _ _⟩;have:=HF.setW i hi (!Sg.oT z (X (i+1)).hw);rw[HK.v]at this|-;exact this
theorem Hv(b:Nat)(z:Int)(on:Bool)(X:Nat->S1)(w:bD)(h:CX w b X):
  Calls prog 100 #[ai (bh ⟨b,0,bj⟩),aa az z,ar on] w λe w'=>e=bf (bG (Sg.j7 z))/\CX w' b (Sg.ny X z on)/\bE b w w':=by
 have HF:=hJ h;by_cases c:z<1\/8<z
 .have e0:Sg.j7 z=1:=by unfold Sg.j7;rw[Sg.xN c];rfl
  have E:Hid (Sg.j7 z=1/\Sg.ny X z on=X):=hJ ⟨e0,aI (by rw[e0];decide)⟩;have C:=hJ c;clear c h e0;go_in
  go_wp2_with fail
  refine sC (C7 b z _ C.v) ?_;rintro w1 hw1;subst w1;go_wp2
  go_ret
  rw[E.1,E.2];exact⟨rfl,HF.v,bE.refl _ _⟩
 .have z1:1<=z:=bu
  have z8:z<=8:=bu
  obtain⟨i,hi,hz,hz'⟩:=Sg.AM z1 z8;have fz:=h.frozen (i*3+1);have is:=h.hd i hi;have SG:Hid (∀W,Calls prog 173 #[ai (bh ⟨b,0,bj⟩),aa az z] W λe w'=>e=bf (ao #[ai (bh ⟨b,i*3,bj⟩),ay])/\w'=W):=hJ (λW=>by
   have:=yc b z W z1 z8;rw[hz']at this;exact this)
  by_cases k1:z=1
  .have e0:Sg.j7 z=8:=by unfold Sg.j7;rw[Sg.eZ z1 z8,aI (λd=>d rfl),aJ k1]
   have E:Hid (Sg.j7 z=8/\Sg.ny X z on=X):=hJ ⟨e0,aI (by rw[e0];decide)⟩;have k1':(z==1)=true:=by simp[k1]
   clear c h z1 z8 hz hz' k1 e0;go_in
   go_wp2_with fail
   refine sC (SG.v _) ?_;rintro w1 hw1;subst w1;go_wp2
   go_ret
   rw[E.1,E.2];exact⟨rfl,HF.v,bE.refl _ _⟩
  .have e0:Sg.j7 z=0:=by unfold Sg.j7;rw[Sg.eZ z1 z8,aI (λd=>d rfl),aI k1]
   have E:Hid (Sg.j7 z=0/\Sg.ny X z on=Sg.put X (i+1) ⟨(X (i+1)).wt,on,(X (i+1)).hw⟩):=hJ ⟨e0,by unfold Sg.ny;rw[aJ e0,hz]⟩;have k1':(z==1)=false:=by simp[k1]
   clear c h z1 z8 hz hz' k1 e0;go_in
   go_wp2_with fail
   refine sC (SG.v _) ?_;rintro w1 hw1;subst w1;go_wp2
   go_ret
   rw[E.1,E.2];exact⟨rfl,HF.T7 i hi on,(bE.refl _ _).setCell _ _⟩
theorem Rb(b:Nat)(z k:Int)(X:Nat->S1)(w:bD)(h:CX w b X)(E0:Sg.jd z k≠0):
  Calls prog 102 #[ai (bh ⟨b,0,bj⟩),aa az z,aa az k] w λe w'=>e=bf (bG (Sg.jd z k))/\CX w' b (Sg.lE X z k)/\bE b w w':=by
 have HF:=hJ h;have EF:Hid (Sg.lE X z k=X):=hJ (aI E0);have N0:=hJ E0;clear E0;by_cases c:z<1\/8<z
 .have e0:Hid (Sg.jd z k=1):=hJ (by unfold Sg.jd;rw[Sg.xN c];rfl);have C:=hJ c;clear c h;go_in
  go_wp2_with fail
  refine sC (C7 b z _ C.v) ?_;rintro w1 hw1;subst w1;go_wp2
  go_ret
  rw[e0.v,EF.v];exact⟨rfl,HF.v,bE.refl _ _⟩
 .have z1:1<=z:=bu
  have z8:z<=8:=bu
  obtain⟨i,hi,hz,hz'⟩:=Sg.AM z1 z8;have SG:Hid (∀W,Calls prog 173 #[ai (bh ⟨b,0,bj⟩),aa az z] W λe w'=>e=bf (ao #[ai (bh ⟨b,i*3,bj⟩),ay])/\w'=W):=hJ (λW=>by
   have:=yc b z W z1 z8;rw[hz']at this;exact this)
  by_cases d:k<0\/2<k
  .have e0:Hid (Sg.jd z k=1):=hJ (by unfold Sg.jd;rw[Sg.eZ z1 z8,aI (λd=>d rfl),aJ d]);have d0:(k !=0)=true:=by simp;omega
   have d1:(k !=1)=true:=by simp;omega
   have d2:(k !=2)=true:=by simp;omega
   have n0:¬k=0:=bu
   have n1:¬k=1:=bu
   have n2:¬k=2:=bu
   clear c h z1 z8 hz hz' d;go_in
   go_wp2_with fail
   refine sC (SG.v _) ?_;rintro w1 hw1;subst w1;go_wp2
   go_ret
   rw[e0.v,EF.v];exact⟨rfl,HF.v,bE.refl _ _⟩
  .by_cases k1:z=1
   .have e0:Hid (Sg.jd z k=8):=hJ (by unfold Sg.jd;rw[Sg.eZ z1 z8,aI (λd=>d rfl),aI d,aJ k1]);have k1':(z==1)=true:=by simp[k1]
    have kk:k=0\/k=1\/k=2:=bu
    clear c h z1 z8 hz hz' k1 d;rcases kk with rfl|rfl|rfl
    all_goals
     go_in
     go_wp2_with fail
     refine sC (SG.v _) ?_;rintro w1 hw1;subst w1;go_wp2
     go_ret
     rw[e0.v,EF.v];exact⟨rfl,HF.v,bE.refl _ _⟩
   .exact aZ (show Sg.jd z k=0 by unfold Sg.jd;rw[Sg.eZ z1 z8,aI (λd=>d rfl),aI d,aI k1]) N0.v
theorem Pn(b:Nat)(z k:Int)(X:Nat->S1)(w:bD)(h:CX w b X)(E0:Sg.jd z k=0):
  Calls prog 102 #[ai (bh ⟨b,0,bj⟩),aa az z,aa az k] w λe w'=>e=bf (bG (Sg.jd z k))/\CX w' b (Sg.lE X z k)/\bE b w w':=by
 have HF:=hJ h;obtain⟨z1,z8,k0,k2⟩:=Sg.Ra E0;obtain⟨i,hi,hz,hz'⟩:=Sg.AM (show 1<=z by omega) z8;have E:Hid (Sg.jd z k=0/\Sg.lE X z k=Sg.put X (i+1) ⟨(X (i+1)).wt&& !Sg.oT z k,(X (i+1)).hd,k⟩):=hJ ⟨E0,by unfold Sg.lE;rw[aJ E0,hz]⟩;have SG:Hid (∀W,Calls prog 173 #[ai (bh ⟨b,0,bj⟩),aa az z] W λe w'=>e=bf (ao #[ai (bh ⟨b,i*3,bj⟩),ay])/\w'=W):=hJ (λW=>by
  have:=yc b z W bu z8;rw[hz']at this;exact this)
 have fz:=h.frozen (i*3+2);have is:=h.hw i hi;have k1':(z==1)=false:=by simp;omega
 have kk:k=0\/k=1\/k=2:=bu
 obtain⟨Y,hY⟩:=hU (Sg.put X (i+1) ⟨(X (i+1)).wt,(X (i+1)).hd,k⟩);have S1:=hJ (h.T8 i hi k);rw[hY]at S1;have F1:Hid (bE b w (w.setCell ⟨b,i*3+2,bj⟩ (aa .i64 k))):=hJ ((bE.refl _ _).setCell _ _);have FIN:Hid (∀W,CX W b Y->Sg.oT z k=true->CX (W.setCell ⟨b,i*3,bj⟩ (ar false)) b (Sg.lE X z k)):=hJ (λW hW hg=>by
  have:=hW.setW i hi false;rw[<-hY,Sg.bF,Sg.gA]at this;rw[E.2,hg,Bool.not_true,Bool.and_false];exact this)
 have FI2:Hid (∀W,CX W b Y->Sg.oT z k=false->CX W b (Sg.lE X z k)):=hJ (λW hW hg=>by
  rw[E.2,hg,Bool.not_false,Bool.and_true,hY];exact hW)
 have IG:Hid (∀W,CX W b Y->W.cell? ⟨b,i*3+2,bj⟩=bh (aa .i64 k)):=hJ (λW hW=>by
  have:=hW.hw i hi;rw[<-hY,Sg.bF]at this;exact this)
 obtain⟨G,hG⟩:=hU (Sg.oT z k);have HG:=hJ hG;rcases kk with rfl|rfl|rfl
 all_goals
  go_in
  go_wp2_with fail
  refine sC (SG.v _) ?_;rintro w1 hw1;subst w1;go_upto_region 9 with fail
  refine cG (λW'=>CX W' b Y/\bE b w W') ⟨S1.v,F1.v⟩ ?_;rintro W1 ⟨f1,g1⟩;have P1:=hJ f1;have G1:=hJ g1;have fy:=f1.frozen (i*3);have iy:=f1.wt i hi;go_wp2_with fail
  refine sC (EB b (i*3) z _ _ (IG.v _ P1.v)) ?_;rintro w1 hw1;subst w1;rw[HG.v];cases G
  .go_wp2
   go_ret
   rw[E.1];exact⟨rfl,FI2.v _ P1.v HG.v,G1.v⟩
  .go_wp2
   go_ret
   rw[E.1];exact⟨rfl,FIN.v _ P1.v HG.v,G1.setCell _ _⟩
theorem Pm(b:Nat)(z k:Int)(X:Nat->S1)(w:bD)(h:CX w b X):
  Calls prog 102 #[ai (bh ⟨b,0,bj⟩),aa az z,aa az k] w λe w'=>e=bf (bG (Sg.jd z k))/\CX w' b (Sg.lE X z k)/\bE b w w':=by
 by_cases c:Sg.jd z k=0
 .exact Pn b z k X w h c
 .exact Rb b z k X w h c
section
variable {P:Program}
theorem G8(w:bD)(b o n:Nat)(ty e:TypeId)(cs:Array Value)(hc:∀j,j<cs.size->w.cell? ⟨b,o+j,bj⟩=cs[j]?)
  (hu:P.underlying ty=bh (.array n e)) (hi:(P.info? ty).map (·.size)=bh cs.size):(loadVar ty ⟨b,o,bj⟩).run P w= .ok (au cs) w:=by
 have hl:=run_loadCells_list (P:=P) w ⟨b,o,bj⟩ cs.toList (λj v hv=>by
  rw[aM]at hv;rw[rZ,hc j (aX.1 hv).1,hv])
 rw[aB,Array.toArray_toList]at hl;obtain⟨i,hq,hs⟩:=Option.map_eq_some_iff.1 hi;have ha:(isAgg ty).run P w= .ok true w:=by unfold isAgg;rw[Sem.run_bind,run_underlying hu w];simp
 simp[loadVar,Sem.run_bind,ha,sizeOf,typeInfo,hq,hs,hl]
theorem iX{ops:Array Oper}{rest:List Oper}{x:Oper}{a:Act}{w:bD}{Q:Exit->Act->bD->Prop}(hgd:x.guard=bj)(ty:TypeId)(y:Operand)(ho:x.op= .load ty y)
  (b o:Nat) (hx:a.eval y=ai (bh ⟨b,o,bj⟩)) (cs:Array Value) (n:Nat) (e:TypeId) (hc:∀j,j<cs.size->w.cell? ⟨b,o+j,bj⟩=cs[j]?)
  (hu:P.underlying ty=bh (.array n e)) (hi:(P.info? ty).map (·.size)=bh cs.size)
  (h:wpList P ops Q rest (a.put x.dst (au cs)) w):wpList P ops Q (x::rest) a w:=
 wpList_plain hgd λ_ hK=>by
  have:=G8 w b o n ty e cs hc hu hi;unfold Oper.wp execOp;simp only[ho,hx,Instr.loadAt,Instr.sureAddr,Sem.run_bind,Sem.run_pure,Result.andThen_ok,this];exact hK _ _ h
end
def gF(X:Nat->S1):Array Value:=((List.range 24).map λo=>Sg.dQ (X (o/3+1)) (o%3)).toArray
theorem mi(X:Nat->S1):(gF X).size=24:=by simp[gF]
theorem yQ(X:Nat->S1)(o:Nat)(h:o<24):(gF X)[o]? =bh (Sg.dQ (X (o/3+1)) (o%3)):=by simp[gF,h]
theorem OR(X:Nat->S1)(x:Nat)(h:x<8):(gF X).extract (x*3) (x*3+3)=#[ar (X (x+1)).wt,ar (X (x+1)).hd,aa az (X (x+1)).hw]:=by
 apply bL;intro i;rw[Array.getElem?_extract];by_cases hi:i<3
 .rw[aJ (by rw[mi];omega),yQ X _ bu,show(x*3+i)/3=x by omega,show(x*3+i)%3=i by omega]
  match i,hi with
  |0,_=>rfl
  |1,_=>rfl
  |2,_=>rfl
 .rw[aI (by rw[mi];omega),aR (by simp;omega)]
theorem CX.all{w:bD}{b:Nat}{X:Nat->S1}(h:CX w b X)(j:Nat)(hj:j<(gF X).size):w.cell? ⟨b,0+j,bj⟩=(gF X)[j]? :=by
 rw[mi]at hj;rw[yQ X j hj];have:=h.dQ (j/3) bu (j%3) bu;rw[show j/3*3+j%3=0+j by omega]at this;exact this
theorem CX.JK{w:bD}{b:Nat}{X:Nat->S1}{T:TypeId}(h:w.heap[b]? =bh (bg (gF X) T (0,0))):CX w b X:=
 ⟨⟨_,T,h,mi X⟩,λi hi j hj=>by
  rw[bO h,yQ X _ bu,show(i*3+j)/3=i by omega,show(i*3+j)%3=j by omega]⟩
theorem CX.congr{w:bD}{b:Nat}{X Y:Nat->S1}(h:CX w b X)(e:∀n,1<=n->n<=8->X n=Y n):CX w b Y:=
 ⟨h.cU,λi hi j hj=>by rw[<-e (i+1) bu bu];exact h.dQ i hi j hj⟩
theorem I6(X:Nat->S1)(x:Nat)(h:x<8)(w:bD):Sem.run prog (Instr.index 233 (au (gF X)) (aa az x)) w= .ok (au #[ar (X (x+1)).wt,ar (X (x+1)).hd,aa az (X (x+1)).hw]) w:=by
 have hu:prog.underlying 233=bh (.array 8 232):=by kernel_rfl
 have hx:=OR X x h;have h1:(x:Int)<8:=bu
 simp[Instr.index,Sem.run_bind,run_underlying hu,go_sem,hx];intro c;omega
theorem Iw(X:Nat->S1):prog.built 235 [(0,au (gF X))]=bh (gF X):=by kernel_rfl
theorem Bl:prog.built 235 []=bh (gF Sg.fS):=by kernel_rfl
section
variable {ops:Array Oper}{rest:List Oper}{x:Oper}{a:Act}{w:bD}{Q:Exit->Act->bD->Prop}
theorem Ei(A:Array Value){y:Operand}(hgd:x.guard=bj)(ho:x.op= .build 235 #[(0,y)])(hy:a.eval y=au A)(hb:prog.built 235 [(0,au A)]=bh A)(h:wpList prog ops Q rest (a.put x.dst (au A)) w):wpList prog ops Q (x::rest) a w:=
 wpList_build hgd 235 #[(0,y)] ho (by simp[hy,hb]) (by simpa[hy,hb]using h)
theorem Dx(hgd:x.guard=bj)(ho:x.op= .build 235 #[])(h:wpList prog ops Q rest (a.put x.dst (au (gF Sg.fS))) w):wpList prog ops Q (x::rest) a w:=
 wpList_build hgd 235 #[] ho (by simp[Bl]) (by simpa[Bl]using h)
end
def Sg.mQ(n:Nat):Bool:=decide (0<n)
theorem qC(b:Nat)(k:Int)(X:Nat->S1)(w:bD)(h:CX w b X):
  Calls prog 176 #[ai (bh ⟨b,0,bj⟩),aa az k] w λe w'=>∃n:Nat,e=bf (ao #[aa az n,ar (Sg.mQ n)])/\Sg.eV X k n/\Below w.heap.size w w':=by
 have HS:=hJ h;have hsz:Hid ((prog.info? 233).map (·.size)=bh (gF X).size):=hJ (by rw[mi];kernel_rfl);go_in
 go_wp2_with (refine iX rfl 233 _ rfl b 0 rfl (gF X) 8 232 HS.all bw hsz.v ?_)
 go_loopw [12] (λi wr=>∃(x:Nat),i=aa az x/\x<=8/\Hid (Below w.heap.size w wr/\∀j,1<=j->j<x+1->Sg.ok X k j=false)) (λi _=>8-(intOf i).toNat)
 case atStart=>exact⟨0,rfl,bu,aQ _ _,λj h1 h2=>bu⟩
 case round=>
  obtain⟨x,rfl,hx8,HN⟩:=hrel;by_cases hx:x<8
  .have hxI:(x:Int)<8:=bu
   have hix:=I6 X x hx wr;have HKB:Hid (Sg.ok X k (x+1)=((X (x+1)).wt&& !(X (x+1)).hd&&decide ((X (x+1)).hw=k))):=hJ rfl;generalize (X (x+1)).wt=ww at*;generalize (X (x+1)).hd=hh at*;generalize (X (x+1)).hw=kk at*;have BL:Hid (∀o,Below w.heap.size w (wr.alloc o)):=hJ (λo=>HN.1.alloc HN.1.size o);have NX:Hid (Sg.ok X k (x+1)=false->∀j,1<=j->j<x+1+1->Sg.ok X k j=false):=hJ (λc j h1 hj=>by
    by_cases e:j=x+1
    .rw[e];exact c
    .exact HN.2 j h1 bu)
   cases ww
   .go_wp2
    go_roundw
    case rel=>exact⟨x+1,by go_num,bu,BL.v _,NX.v (by rw[HKB.v];rfl)⟩
    case measure=>simp[intOf];omega
   .cases hh
    .by_cases hi:kk=k
     .subst hi;go_wp2
      go_ret2
      exact⟨x+1,rfl, .inr ⟨by omega,bu,by rw[HKB.v];simp,HN.2⟩,BL.v _⟩
     .have hi':(kk==k)=false:=by simp;exact hi
      go_wp2
      go_roundw
      case rel=>exact⟨x+1,by go_num,bu,BL.v _,NX.v (by rw[HKB.v,aT hi];simp)⟩
      case measure=>simp[intOf];omega
    .go_wp2
     go_roundw
     case rel=>exact⟨x+1,by go_num,bu,BL.v _,NX.v (by rw[HKB.v];rfl)⟩
     case measure=>simp[intOf];omega
  .have hxI:¬(x:Int)<8:=bu
   go_wp2
   go_ret2
   exact⟨0,rfl, .inl ⟨rfl,λj h1 h2=>HN.2 j h1 bu⟩,HN.1⟩
theorem BA(b:Nat)(X:Nat->S1)(w:bD)(h:CX w b X):
  Calls prog 175 #[ai (bh ⟨b,0,bj⟩)] w λe w'=>∃n:Nat,e=bf (ao #[aa az n,ar (Sg.mQ n)])/\Sg.eV X 0 n/\Below w.heap.size w w':=by
 have HF:=hJ h;go_in
 go_wp2_with fail
 refine(qC b 0 X _ HF.v).mono ?_;rintro e w1 ⟨n,rfl,hn,hb⟩;have HN:=hJ hn;have HB:=hJ hb;go_wp2
 go_ret2
 exact⟨n,rfl,HN.v,HB.v⟩
theorem No(b:Nat)(X:Nat->S1)(w:bD)(h:CX w b X):
  Calls prog 103 #[ai (bh ⟨b,0,bj⟩)] w λe w'=>∃n:Nat,e=bf (ao #[aa az n,ar (Sg.mQ n)])/\Sg.eV X 2 n/\CX w' b (Sg.uz X n)/\bE b w w':=by
 have HF:=hJ h;go_in
 go_wp2_with fail
 refine(qC b 2 X _ HF.v).mono ?_;rintro e w1 ⟨n,rfl,hn,hb⟩;have HN:=hJ hn;have HB:=hJ (bE.cC (b:=b) hb);have H1:=hJ (HF.below hb HF.lt);have n8:=hn.le;have nn:n=0\/n=1\/n=2\/n=3\/n=4\/n=5\/n=6\/n=7\/n=8:=bu
 have FIN:Hid (∀i,i<8->n=i+1->CX (w1.setCell ⟨b,i*3,bj⟩ (ar false)) b (Sg.uz X n)):=hJ (λi hi e=>by
  have:=H1.setW i hi false;unfold Sg.uz;rw[nJ,e];exact this)
 have CL:Hid (∀i,i<8->n=i+1->w1.cell? ⟨b,i*3,bj⟩=bh (ar (X (i+1)).wt)/\w1.frozen? ⟨b,i*3,bj⟩=false):=hJ (λi hi _=>⟨H1.wt i hi,H1.frozen _⟩);rcases nn with rfl|rfl|rfl|rfl|rfl|rfl|rfl|rfl|rfl
 .rw[show Sg.mQ 0=false from rfl];go_wp2
  go_ret2
  exact⟨0,rfl,HN.v,H1.v,HB.v⟩
 .have c0:w1.cell? ⟨b,0,bj⟩=bh (ar (X 1).wt):=(CL.v 0 bu rfl).1;have fz:w1.frozen? ⟨b,0,bj⟩=false:=(CL.v 0 bu rfl).2;rw[show Sg.mQ 1=true from rfl];go_wp2
  go_ret2
  exact⟨1,rfl,HN.v,FIN.v 0 bu rfl,HB.setCell _ _⟩
 .have c0:w1.cell? ⟨b,3,bj⟩=bh (ar (X 2).wt):=(CL.v 1 bu rfl).1;have fz:w1.frozen? ⟨b,3,bj⟩=false:=(CL.v 1 bu rfl).2;rw[show Sg.mQ 2=true from rfl];go_wp2
  go_ret2
  exact⟨2,rfl,HN.v,FIN.v 1 bu rfl,HB.setCell _ _⟩
 .have c0:w1.cell? ⟨b,6,bj⟩=bh (ar (X 3).wt):=(CL.v 2 bu rfl).1;have fz:w1.frozen? ⟨b,6,bj⟩=false:=(CL.v 2 bu rfl).2;rw[show Sg.mQ 3=true from rfl];go_wp2
  go_ret2
  exact⟨3,rfl,HN.v,FIN.v 2 bu rfl,HB.setCell _ _⟩
 .have c0:w1.cell? ⟨b,9,bj⟩=bh (ar (X 4).wt):=(CL.v 3 bu rfl).1;have fz:w1.frozen? ⟨b,9,bj⟩=false:=(CL.v 3 bu rfl).2;rw[show Sg.mQ 4=true from rfl];go_wp2
  go_ret2
  exact⟨4,rfl,HN.v,FIN.v 3 bu rfl,HB.setCell _ _⟩
 .have c0:w1.cell? ⟨b,12,bj⟩=bh (ar (X 5).wt):=(CL.v 4 bu rfl).1;have fz:w1.frozen? ⟨b,12,bj⟩=false:=(CL.v 4 bu rfl).2;rw[show Sg.mQ 5=true from rfl];go_wp2
  go_ret2
  exact⟨5,rfl,HN.v,FIN.v 4 bu rfl,HB.setCell _ _⟩
 .have c0:w1.cell? ⟨b,15,bj⟩=bh (ar (X 6).wt):=(CL.v 5 bu rfl).1;have fz:w1.frozen? ⟨b,15,bj⟩=false:=(CL.v 5 bu rfl).2;rw[show Sg.mQ 6=true from rfl];go_wp2
  go_ret2
  exact⟨6,rfl,HN.v,FIN.v 5 bu rfl,HB.setCell _ _⟩
 .have c0:w1.cell? ⟨b,18,bj⟩=bh (ar (X 7).wt):=(CL.v 6 bu rfl).1;have fz:w1.frozen? ⟨b,18,bj⟩=false:=(CL.v 6 bu rfl).2;rw[show Sg.mQ 7=true from rfl];go_wp2
  go_ret2
  exact⟨7,rfl,HN.v,FIN.v 6 bu rfl,HB.setCell _ _⟩
 .have c0:w1.cell? ⟨b,21,bj⟩=bh (ar (X 8).wt):=(CL.v 7 bu rfl).1;have fz:w1.frozen? ⟨b,21,bj⟩=false:=(CL.v 7 bu rfl).2;rw[show Sg.mQ 8=true from rfl];go_wp2
  go_ret2
  exact⟨8,rfl,HN.v,FIN.v 7 bu rfl,HB.setCell _ _⟩
def Sg.iQ(X:Nat->S1)(k:Nat):Nat->S1:=λn=>if n<=k/\0<n then⟨false,(X n).hd,(X n).hw⟩else X n
theorem Sg.Lg(X:Nat->S1):Sg.iQ X 0=X:=by
 funext n;unfold Sg.iQ;rw[nJ]
theorem Sg.Lf(X:Nat->S1)(k:Nat):Sg.put (Sg.iQ X k) (k+1) ⟨false,(Sg.iQ X k (k+1)).hd,(Sg.iQ X k (k+1)).hw⟩=Sg.iQ X (k+1):=by
 funext n;unfold Sg.put;by_cases e:n=k+1
 .rw[aJ e,e];unfold Sg.iQ;rw[nJ,nK]
 .rw[aI e];unfold Sg.iQ;by_cases c:n<=k/\0<n
  .rw[aJ c,nK]
  .rw[aI c,nJ]
theorem Sg.IC(X:Nat->S1)(n:Nat)(h1:1<=n)(h8:n<=8):Sg.iQ X 8 n=Sg.pH X n:=by
 unfold Sg.iQ Sg.pH;rw[aJ ⟨h8,bu⟩]
theorem IF(b:Nat)(X:Nat->S1)(w:bD)(h:CX w b X):
  Calls prog 145 #[ai (bh ⟨b,0,bj⟩)] w λe w'=>e=bf (ai (bh ⟨w.heap.size,0,bj⟩))/\CX w' w.heap.size (Sg.pH X)/\Below w.heap.size w w'/\w.heap.size<w'.heap.size:=by
 have HS:=hJ h;clear h;have hsz:Hid ((prog.info? 233).map (·.size)=bh (gF X).size):=hJ (by rw[mi];kernel_rfl);have BT:Hid (prog.built 235 [(0,au (gF X))]=bh (gF X)):=hJ (Iw X);have ST:Hid (CX (w.alloc (bg (gF X) 235)) w.heap.size X/\Below w.heap.size w (w.alloc (bg (gF X) 235))):=hJ ⟨CX.JK (heap_alloc_new w _),(aQ _ _).alloc (aL _) _⟩;obtain⟨A,hA⟩:=hU (gF X);have AL:Hid (∀j,j<A.size->w.cell? ⟨b,0+j,bj⟩=A[j]?):=hJ (by rw[<-hA];exact HS.all);rw[hA]at hsz BT ST;clear hA;go_in
 go_upto_region 2 with(first|(refine iX rfl 233 _ rfl b 0 rfl A 8 232 AL.v bw hsz.v ?_)|(refine Ei A rfl rfl rfl BT.v ?_))
 refine cG (λW'=>CX W' w.heap.size X/\Below w.heap.size w W') ST.v ?_;rintro W1 ⟨f1,b1⟩;have S0:Hid (CX W1 w.heap.size (Sg.iQ X 0)/\Below w.heap.size w W1):=hJ ⟨by rw[Sg.Lg];exact f1,b1⟩;clear f1 b1;obtain⟨c,hc⟩:=hU (w.heap.size);have HC:=hJ hc;rw[hc]at S0|-;clear hc ST AL hsz BT;go_wp2
 go_loopw [11] (λi wr=>∃(x:Nat),i=aa az x/\x<=8/\Hid (CX wr c (Sg.iQ X x)/\Below c w wr)) (λi _=>8-(intOf i).toNat)
 case atStart=>exact⟨0,rfl,bu,S0⟩
 case round=>
  clear S0;obtain⟨x,rfl,hx8,HN⟩:=hrel;by_cases hx:x<8
  .have hxI:(x:Int)<8:=bu
   have c0:=HN.1.wt x hx;have fz:=HN.1.frozen (x*3);have NX:Hid (CX (wr.setCell ⟨c,x*3,bj⟩ (ar false)) c (Sg.iQ X (x+1))/\Below c w (wr.setCell ⟨c,x*3,bj⟩ (ar false))):=hJ ⟨by
    have:=HN.1.setW x hx false;rw[Sg.Lf]at this;exact this,HN.2.setCell (aL _) _⟩
   go_wp2
   go_roundw
   case rel=>exact⟨x+1,by go_num,bu,NX⟩
   case measure=>simp[intOf];omega
  .have hxI:¬(x:Int)<8:=bu
   obtain rfl:x=8:=bu
   go_wp2
   go_ret
   rw[HC.v];exact⟨rfl,HN.1.congr (Sg.IC X),HN.2,HN.1.lt⟩
