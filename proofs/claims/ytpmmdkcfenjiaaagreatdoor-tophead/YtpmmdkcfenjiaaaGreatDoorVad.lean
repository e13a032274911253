import Derived.Deep.CutBlock
import Derived.Deep.DeepCutAuto
import Derived.Test.YtpmmdkcfenjiaaaGreatDoorVab
set_option maxRecDepth 100000
set_option maxHeartbeats 1000000
namespace Go.Proofs.YtpmmdkcfenjiaaaGreatDoor
open Go.RowKit
def N7 (f:Nat->Int)(i:Nat)(v:Int):Nat->Int:=fun j=>if j=i then v else f j
namespace Sg
structure S1 where
 wt:Bool
 hd:Bool
 hw:Int
def fj:Nat->S1:=fun _=>⟨false,false,0⟩
def put (X:Nat->S1)(n:Nat)(x:S1):Nat->S1:=fun m=>if m=n then x else X m
theorem ai (X:Nat->S1)(n:Nat)(x:S1):put X n x n=x:=aJ rfl
theorem ao (X:Nat->S1)(n:Nat)(x:S1)(m:Nat)(h:m≠n):put X n x m=X m:=aI h
theorem fD (X:Nat->S1)(n:Nat)(x y:S1):put (put X n x) n y=put X n y:=by
 funext m;unfold put;split<;>rfl
def nU (z h:Int):Bool:=decide (h=1)||(decide (z=3)&&decide (h=0))
def bj (z:Int):Int:=if z<1\/8<z then 1 else 0
def jq (z:Int):Int:=if bj z≠0 then 1 else if z=1 then 8 else 0
def iw (z h:Int):Int:=if bj z≠0 then 1 else if h<0\/2<h then 1 else if z=1 then 8 else 0
def kM (X:Nat->S1)(z:Int):Nat->S1:=if bj z=0 then put X z.toNat ⟨!nU z (X z.toNat).hw,(X z.toNat).hd,(X z.toNat).hw⟩else X
def lr (X:Nat->S1)(z:Int)(on:Bool):Nat->S1:=if jq z=0 then put X z.toNat ⟨(X z.toNat).wt,on,(X z.toNat).hw⟩else X
def kH (X:Nat->S1)(z h:Int):Nat->S1:=if iw z h=0 then put X z.toNat ⟨(X z.toNat).wt&& !nU z h,(X z.toNat).hd,h⟩else X
def ok (X:Nat->S1)(h:Int)(n:Nat):Bool:=(X n).wt&& !(X n).hd&&decide ((X n).hw=h)
def dO (X:Nat->S1)(h:Int)(n:Nat):Prop:=(n=0/\ ∀j,1<=j->j<=8->ok X h j=false)\/(1<=n/\n<=8/\ok X h n=true/\ ∀j,1<=j->j<n->ok X h j=false)
theorem dO.unique {X:Nat->S1}{h:Int}{n m:Nat}(a:dO X h n)(b:dO X h m):n=m:=by
 rcases a with⟨a0,a1⟩|⟨a1,a2,a3,a4⟩
 ·rcases b with⟨b0,_⟩|⟨b1,b2,b3,_⟩
  ·omega
  ·rw[a1 m b1 b2]at b3;cases b3
 ·rcases b with⟨b0,b1⟩|⟨b1,b2,b3,b4⟩
  ·rw[b1 n a1 a2]at a3;cases a3
  ·rcases Nat.lt_trichotomy n m with c|c|c
   ·rw[b4 n a1 c]at a3;cases a3
   ·exact c
   ·rw[a4 m b1 c]at b3;cases b3
theorem dO.le {X:Nat->S1}{h:Int}{n:Nat}(a:dO X h n):n<=8:=by
 rcases a with⟨a,_⟩|⟨_,a,_⟩<;>omega
def sL (X:Nat->S1)(n:Nat):Nat->S1:=if n=0 then X else put X n ⟨false,(X n).hd,(X n).hw⟩
def oO (X:Nat->S1):Nat->S1:=fun n=>⟨false,(X n).hd,(X n).hw⟩
theorem vS {z:Int}(h:z<1\/8<z):bj z=1:=aJ h
theorem dY {z:Int}(h1:1<=z)(h2:z<=8):bj z=0:=aI (by omega)
theorem La {z:Int}(h:bj z=0):1<=z/\z<=8:=by
 unfold bj at h;split at h<;>omega
theorem QN {z:Int}(h:jq z=0):1<z/\z<=8:=by
 unfold jq at h;by_cases c:bj z=0
 ·have:=La c;rw[aI (fun d=>d c)]at h;by_cases d:z=1
  ·rw[aJ d]at h;omega
  ·omega
 ·rw[aJ c]at h;omega
theorem N3 {z k:Int}(h:iw z k=0):1<z/\z<=8/\0<=k/\k<=2:=by
 unfold iw at h;by_cases c:bj z=0
 ·have:=La c;rw[aI (fun d=>d c)]at h;by_cases e:k<0\/2<k
  ·rw[aJ e]at h;omega
  ·rw[aI e]at h;by_cases d:z=1
   ·rw[aJ d]at h;omega
   ·omega
 ·rw[aJ c]at h;omega
def dC (x:S1):Nat->Value
 |0=> .bool x.wt
 |1=> .bool x.hd
 |_=> .int .i64 x.hw
end Sg
open Sg (S1)
structure CX (w:bD)(b:Nat)(X:Nat->S1):Prop where
 cv: ∃C T,w.heap[b]? =some (.cells C T (0,0))/\C.size=24
 dC: ∀i,i<8-> ∀j,j<3->w.cell? ⟨b,i*3+j,none⟩=some (Sg.dC (X (i+1)) j)
section
variable {w w' : bD} {b : Nat} {X : Nat -> S1}
theorem CX.lt (h:CX w b X):b<w.heap.size:=by
 obtain⟨C,T,e,_⟩:=h.cv;exact(aX.1 e).1
theorem CX.frozen (h:CX w b X)(o:Nat):w.frozen? ⟨b,o,none⟩=false:=by
 obtain⟨C,T,e,_⟩:=h.cv;exact bf e o
theorem CX.same (h:CX w b X)(e:w'.heap[b]? =w.heap[b]?):CX w' b X:=by
 have hc: ∀o,w'.cell? ⟨b,o,none⟩=w.cell? ⟨b,o,none⟩:=fun o=>aV e;exact⟨by rw[e];exact h.cv,fun i hi j hj=>(hc _).trans (h.dC i hi j hj)⟩
theorem CX.drew (h:CX w b X):CX w.drew b X:=h.same rfl
theorem CX.below {B:Nat}(h:CX w b X)(k:Below B w w')(hb:b<B):CX w' b X:=h.same (k.block b hb)
theorem CX.wt (h:CX w b X)(i:Nat)(hi:i<8):w.cell? ⟨b,i*3,none⟩=some (.bool (X (i+1)).wt):=h.dC i hi 0 (by omega)
theorem CX.hd (h:CX w b X)(i:Nat)(hi:i<8):w.cell? ⟨b,i*3+1,none⟩=some (.bool (X (i+1)).hd):=h.dC i hi 1 (by omega)
theorem CX.hw (h:CX w b X)(i:Nat)(hi:i<8):w.cell? ⟨b,i*3+2,none⟩=some (.int .i64 (X (i+1)).hw):=h.dC i hi 2 (by omega)
theorem CX.set (h:CX w b X)(i j:Nat)(hi:i<8)(hj:j<3)(x:S1)(hx: ∀k,k<3->k≠j->Sg.dC x k=Sg.dC (X (i+1)) k):CX (w.setCell ⟨b,i*3+j,none⟩ (Sg.dC x j)) b (Sg.put X (i+1) x):=by
 obtain⟨C,T,e,hC⟩:=h.cv;refine⟨⟨_,T,bC e _ _,by simpa using hC⟩,fun m hm k hk=>?_⟩;by_cases c:m=i
 ·subst c;rw[Sg.ai];by_cases d:k=j
  ·subst d;exact cL e _ _ (by omega)
  ·rw[cC e _ _ _ (by omega),h.dC m hm k hk,hx k hk d]
 ·rw[Sg.ao _ _ _ _ (by omega),cC e _ _ _ (by omega),h.dC m hm k hk]
theorem CX.setW (h:CX w b X)(i:Nat)(hi:i<8)(v:Bool):CX (w.setCell ⟨b,i*3,none⟩ (.bool v)) b (Sg.put X (i+1) ⟨v,(X (i+1)).hd,(X (i+1)).hw⟩):=
 h.set i 0 hi (by omega) ⟨v,(X (i+1)).hd,(X (i+1)).hw⟩ (fun k hk hn=>by match k,hk,hn with|1,_,_=>rfl|2,_,_=>rfl)
theorem CX.Qx (h:CX w b X)(i:Nat)(hi:i<8)(v:Bool):CX (w.setCell ⟨b,i*3+1,none⟩ (.bool v)) b (Sg.put X (i+1) ⟨(X (i+1)).wt,v,(X (i+1)).hw⟩):=
 h.set i 1 hi (by omega) ⟨(X (i+1)).wt,v,(X (i+1)).hw⟩ (fun k hk hn=>by match k,hk,hn with|0,_,_=>rfl|2,_,_=>rfl)
theorem CX.QJ (h:CX w b X)(i:Nat)(hi:i<8)(v:Int):CX (w.setCell ⟨b,i*3+2,none⟩ (.int .i64 v)) b (Sg.put X (i+1) ⟨(X (i+1)).wt,(X (i+1)).hd,v⟩):=
 h.set i 2 hi (by omega) ⟨(X (i+1)).wt,(X (i+1)).hd,v⟩ (fun k hk hn=>by match k,hk,hn with|0,_,_=>rfl|1,_,_=>rfl|2,_,h=>exact aZ rfl h)
end
theorem vA (b:Nat)(z:Int)(w:bD)(h1:1<=z)(h2:z<=8):
  Calls Tryz.prog 173 #[.pointer (some ⟨b,0,none⟩), .int .i64 z] w fun e w'=>e= .returned (.tuple #[.pointer (some ⟨b,(z.toNat-1)*3,none⟩), .nilIface])/\w'=w:=by
 have:z=1\/z=2\/z=3\/z=4\/z=5\/z=6\/z=7\/z=8:=by omega
 rcases this with rfl|rfl|rfl|rfl|rfl|rfl|rfl|rfl
 all_goals
  go_in
  go_wp2
  go_ret2
  exact⟨rfl,rfl⟩
theorem Aq (b:Nat)(z:Int)(w:bD)(h:z<1\/8<z):
  Calls Tryz.prog 173 #[.pointer (some ⟨b,0,none⟩), .int .i64 z] w fun e w'=>e= .returned (.tuple #[.pointer none, .iface 100 (.int .i64 1)])/\w'=w:=by
 by_cases c:z<1
 ·clear h;go_in
  go_wp2
  go_ret2
  exact⟨rfl,rfl⟩
 ·have c2:8<z:=by omega
  clear h;go_in
  go_wp2
  go_ret2
  exact⟨rfl,rfl⟩
theorem De (b o:Nat)(z k:Int)(w:bD)(c:w.cell? ⟨b,o+2,none⟩=some (.int .i64 k)):
  Calls Tryz.prog 174 #[.pointer (some ⟨b,o,none⟩), .int .i64 z] w fun e w'=>e= .returned (.bool (Sg.nU z k))/\w'=w:=by
 by_cases k1:k=1
 ·have E:Hid (Sg.nU z k=true):=hZ (by unfold Sg.nU;simp[k1]);rw[E.out];have k1':(k==1)=true:=by simp[k1]
  clear k1;go_in
  go_wp2
  go_ret
  exact⟨rfl,rfl⟩
 ·have k1':(k==1)=false:=by simp[k1]
  by_cases z3:z=3
  ·have E:Hid (Sg.nU z k=(k==0)):=hZ (by unfold Sg.nU;simp[k1,z3];rfl);rw[E.out];subst z3;clear k1;go_in
   go_wp2
   go_ret
   exact⟨rfl,rfl⟩
  ·have E:Hid (Sg.nU z k=false):=hZ (by unfold Sg.nU;simp[k1,z3]);rw[E.out];have z3':(z==3)=false:=by simp[z3]
   clear k1 z3;go_in
   go_wp2
   go_ret
   exact⟨rfl,rfl⟩
theorem Sg.zE {z:Int}(h1:1<=z)(h2:z<=8): ∃i:Nat,i<8/\z.toNat=i+1/\z.toNat-1=i:=⟨z.toNat-1,by omega,by omega,rfl⟩
theorem uF (b:Nat)(z:Int)(X:Nat->S1)(w:bD)(h:CX w b X):
  Calls Tryz.prog 98 #[.pointer (some ⟨b,0,none⟩), .int .i64 z] w fun e w'=>e= .returned (aq (Sg.bj z))/\CX w' b (Sg.kM X z)/\af b w w':=by
 have HF:=hZ h;by_cases c:z<1\/8<z
 ·have E:Hid (Sg.bj z=1/\Sg.kM X z=X):=hZ ⟨Sg.vS c,aI (by rw[Sg.vS c];decide)⟩;have C:=hZ c;clear c h;go_in
  go_wp2_with fail
  refine(Aq b z _ C.out).mono ?_;rintro e w1 ⟨rfl,hw1⟩;subst w1;go_wp2
  go_ret
  rw[E.out.1,E.out.2];exact⟨rfl,HF.out,af.refl _ _⟩
 ·have z1:1<=z:=by omega
  have z8:z<=8:=by omega
  obtain⟨i,hi,hz,hz'⟩:=Sg.zE z1 z8;have c2:=h.hw i hi;have fz:=h.frozen (i*3);have is:=h.wt i hi;have E:Hid (Sg.bj z=0/\Sg.kM X z=Sg.put X (i+1) ⟨!Sg.nU z (X (i+1)).hw,(X (i+1)).hd,(X (i+1)).hw⟩):=hZ ⟨Sg.dY z1 z8,by unfold Sg.kM;rw[aJ (Sg.dY z1 z8),hz]⟩;have SG:Hid (∀W,Calls Tryz.prog 173 #[.pointer (some ⟨b,0,none⟩), .int .i64 z] W fun e w'=>e= .returned (.tuple #[.pointer (some ⟨b,i*3,none⟩), .nilIface])/\w'=W):=hZ (fun W=>by
   have:=vA b z W z1 z8;rw[hz']at this;exact this)
  obtain⟨K,hK⟩:=nJ ((X (i+1)).hw);rw[hK]at c2;have HK:=hZ hK;clear c h z1 z8 hz hz' hK;go_in
  go_wp2_with fail
  refine(SG.out _).mono ?_;rintro e w1 ⟨rfl,hw1⟩;subst w1;go_wp2_with fail
  refine(De b (i*3) z K _ c2).mono ?_;rintro e w1 ⟨rfl,hw1⟩;subst w1;go_wp2
  go_ret
  rw[E.out.1,E.out.2];refine⟨rfl,?_,(af.refl _ _).setCell _ _⟩;have:=HF.out.setW i hi (!Sg.nU z (X (i+1)).hw);rw[HK.out]at this|-;exact this
theorem D6 (b:Nat)(z:Int)(on:Bool)(X:Nat->S1)(w:bD)(h:CX w b X):
  Calls Tryz.prog 100 #[.pointer (some ⟨b,0,none⟩), .int .i64 z, .bool on] w fun e w'=>e= .returned (aq (Sg.jq z))/\CX w' b (Sg.lr X z on)/\af b w w':=by
 have HF:=hZ h;by_cases c:z<1\/8<z
 ·have e0:Sg.jq z=1:=by unfold Sg.jq;rw[Sg.vS c];rfl
  have E:Hid (Sg.jq z=1/\Sg.lr X z on=X):=hZ ⟨e0,aI (by rw[e0];decide)⟩;have C:=hZ c;clear c h e0;go_in
  go_wp2_with fail
  refine(Aq b z _ C.out).mono ?_;rintro e w1 ⟨rfl,hw1⟩;subst w1;go_wp2
  go_ret
  rw[E.out.1,E.out.2];exact⟨rfl,HF.out,af.refl _ _⟩
 ·have z1:1<=z:=by omega
  have z8:z<=8:=by omega
  obtain⟨i,hi,hz,hz'⟩:=Sg.zE z1 z8;have fz:=h.frozen (i*3+1);have is:=h.hd i hi;have SG:Hid (∀W,Calls Tryz.prog 173 #[.pointer (some ⟨b,0,none⟩), .int .i64 z] W fun e w'=>e= .returned (.tuple #[.pointer (some ⟨b,i*3,none⟩), .nilIface])/\w'=W):=hZ (fun W=>by
   have:=vA b z W z1 z8;rw[hz']at this;exact this)
  by_cases k1:z=1
  ·have e0:Sg.jq z=8:=by unfold Sg.jq;rw[Sg.dY z1 z8,aI (fun d=>d rfl),aJ k1]
   have E:Hid (Sg.jq z=8/\Sg.lr X z on=X):=hZ ⟨e0,aI (by rw[e0];decide)⟩;have k1':(z==1)=true:=by simp[k1]
   clear c h z1 z8 hz hz' k1 e0;go_in
   go_wp2_with fail
   refine(SG.out _).mono ?_;rintro e w1 ⟨rfl,hw1⟩;subst w1;go_wp2
   go_ret
   rw[E.out.1,E.out.2];exact⟨rfl,HF.out,af.refl _ _⟩
  ·have e0:Sg.jq z=0:=by unfold Sg.jq;rw[Sg.dY z1 z8,aI (fun d=>d rfl),aI k1]
   have E:Hid (Sg.jq z=0/\Sg.lr X z on=Sg.put X (i+1) ⟨(X (i+1)).wt,on,(X (i+1)).hw⟩):=hZ ⟨e0,by unfold Sg.lr;rw[aJ e0,hz]⟩;have k1':(z==1)=false:=by simp[k1]
   clear c h z1 z8 hz hz' k1 e0;go_in
   go_wp2_with fail
   refine(SG.out _).mono ?_;rintro e w1 ⟨rfl,hw1⟩;subst w1;go_wp2
   go_ret
   rw[E.out.1,E.out.2];exact⟨rfl,HF.out.Qx i hi on,(af.refl _ _).setCell _ _⟩
theorem OO (b:Nat)(z k:Int)(X:Nat->S1)(w:bD)(h:CX w b X)(E0:Sg.iw z k≠0):
  Calls Tryz.prog 102 #[.pointer (some ⟨b,0,none⟩), .int .i64 z, .int .i64 k] w fun e w'=>e= .returned (aq (Sg.iw z k))/\CX w' b (Sg.kH X z k)/\af b w w':=by
 have HF:=hZ h;have EF:Hid (Sg.kH X z k=X):=hZ (aI E0);have N0:=hZ E0;clear E0;by_cases c:z<1\/8<z
 ·have e0:Hid (Sg.iw z k=1):=hZ (by unfold Sg.iw;rw[Sg.vS c];rfl);have C:=hZ c;clear c h;go_in
  go_wp2_with fail
  refine(Aq b z _ C.out).mono ?_;rintro e w1 ⟨rfl,hw1⟩;subst w1;go_wp2
  go_ret
  rw[e0.out,EF.out];exact⟨rfl,HF.out,af.refl _ _⟩
 ·have z1:1<=z:=by omega
  have z8:z<=8:=by omega
  obtain⟨i,hi,hz,hz'⟩:=Sg.zE z1 z8;have SG:Hid (∀W,Calls Tryz.prog 173 #[.pointer (some ⟨b,0,none⟩), .int .i64 z] W fun e w'=>e= .returned (.tuple #[.pointer (some ⟨b,i*3,none⟩), .nilIface])/\w'=W):=hZ (fun W=>by
   have:=vA b z W z1 z8;rw[hz']at this;exact this)
  by_cases d:k<0\/2<k
  ·have e0:Hid (Sg.iw z k=1):=hZ (by unfold Sg.iw;rw[Sg.dY z1 z8,aI (fun d=>d rfl),aJ d]);have d0:(k !=0)=true:=by simp;omega
   have d1:(k !=1)=true:=by simp;omega
   have d2:(k !=2)=true:=by simp;omega
   have n0: ¬k=0:=by omega
   have n1: ¬k=1:=by omega
   have n2: ¬k=2:=by omega
   clear c h z1 z8 hz hz' d;go_in
   go_wp2_with fail
   refine(SG.out _).mono ?_;rintro e w1 ⟨rfl,hw1⟩;subst w1;go_wp2
   go_ret
   rw[e0.out,EF.out];exact⟨rfl,HF.out,af.refl _ _⟩
  ·by_cases k1:z=1
   ·have e0:Hid (Sg.iw z k=8):=hZ (by unfold Sg.iw;rw[Sg.dY z1 z8,aI (fun d=>d rfl),aI d,aJ k1]);have k1':(z==1)=true:=by simp[k1]
    have kk:k=0\/k=1\/k=2:=by omega
    clear c h z1 z8 hz hz' k1 d;rcases kk with rfl|rfl|rfl
    all_goals
     go_in
     go_wp2_with fail
     refine(SG.out _).mono ?_;rintro e w1 ⟨rfl,hw1⟩;subst w1;go_wp2
     go_ret
     rw[e0.out,EF.out];exact⟨rfl,HF.out,af.refl _ _⟩
   ·exact aZ (show Sg.iw z k=0 by unfold Sg.iw;rw[Sg.dY z1 z8,aI (fun d=>d rfl),aI d,aI k1]) N0.out
theorem MP (b:Nat)(z k:Int)(X:Nat->S1)(w:bD)(h:CX w b X)(E0:Sg.iw z k=0):
  Calls Tryz.prog 102 #[.pointer (some ⟨b,0,none⟩), .int .i64 z, .int .i64 k] w fun e w'=>e= .returned (aq (Sg.iw z k))/\CX w' b (Sg.kH X z k)/\af b w w':=by
 have HF:=hZ h;obtain⟨z1,z8,k0,k2⟩:=Sg.N3 E0;obtain⟨i,hi,hz,hz'⟩:=Sg.zE (show 1<=z by omega) z8;have E:Hid (Sg.iw z k=0/\Sg.kH X z k=Sg.put X (i+1) ⟨(X (i+1)).wt&& !Sg.nU z k,(X (i+1)).hd,k⟩):=hZ ⟨E0,by unfold Sg.kH;rw[aJ E0,hz]⟩;have SG:Hid (∀W,Calls Tryz.prog 173 #[.pointer (some ⟨b,0,none⟩), .int .i64 z] W fun e w'=>e= .returned (.tuple #[.pointer (some ⟨b,i*3,none⟩), .nilIface])/\w'=W):=hZ (fun W=>by
  have:=vA b z W (by omega) z8;rw[hz']at this;exact this)
 have fz:=h.frozen (i*3+2);have is:=h.hw i hi;have k1':(z==1)=false:=by simp;omega
 have kk:k=0\/k=1\/k=2:=by omega
 obtain⟨Y,hY⟩:=nJ (Sg.put X (i+1) ⟨(X (i+1)).wt,(X (i+1)).hd,k⟩);have S1:=hZ (h.QJ i hi k);rw[hY]at S1;have F1:Hid (af b w (w.setCell ⟨b,i*3+2,none⟩ (.int .i64 k))):=hZ ((af.refl _ _).setCell _ _);clear h z1 z8 hz hz' k0 k2 E0;have FIN:Hid (∀W,CX W b Y->Sg.nU z k=true->CX (W.setCell ⟨b,i*3,none⟩ (.bool false)) b (Sg.kH X z k)):=hZ (fun W hW hg=>by
  have:=hW.setW i hi false;rw[<-hY,Sg.ai,Sg.fD]at this;rw[E.out.2,hg,Bool.not_true,Bool.and_false];exact this)
 have FI2:Hid (∀W,CX W b Y->Sg.nU z k=false->CX W b (Sg.kH X z k)):=hZ (fun W hW hg=>by
  rw[E.out.2,hg,Bool.not_false,Bool.and_true,hY];exact hW)
 have IG:Hid (∀W,CX W b Y->W.cell? ⟨b,i*3+2,none⟩=some (.int .i64 k)):=hZ (fun W hW=>by
  have:=hW.hw i hi;rw[<-hY,Sg.ai]at this;exact this)
 clear hY;obtain⟨G,hG⟩:=nJ (Sg.nU z k);have HG:=hZ hG;clear hG;rcases kk with rfl|rfl|rfl
 all_goals
  go_in
  go_wp2_with fail
  refine(SG.out _).mono ?_;rintro e w1 ⟨rfl,hw1⟩;subst w1;go_upto_region 9 with fail
  refine bw (fun W'=>CX W' b Y/\af b w W') ⟨S1.out,F1.out⟩ ?_;rintro W1 ⟨f1,g1⟩;have P1:=hZ f1;have G1:=hZ g1;have fy:=f1.frozen (i*3);have iy:=f1.wt i hi;clear f1 g1 fz is;go_wp2_with fail
  refine(De b (i*3) z _ _ (IG.out _ P1.out)).mono ?_;rintro e w1 ⟨rfl,hw1⟩;subst w1;rw[HG.out];cases G
  ·go_wp2
   go_ret
   rw[E.out.1];exact⟨rfl,FI2.out _ P1.out HG.out,G1.out⟩
  ·go_wp2
   go_ret
   rw[E.out.1];exact⟨rfl,FIN.out _ P1.out HG.out,G1.out.setCell _ _⟩
theorem NA (b:Nat)(z k:Int)(X:Nat->S1)(w:bD)(h:CX w b X):
  Calls Tryz.prog 102 #[.pointer (some ⟨b,0,none⟩), .int .i64 z, .int .i64 k] w fun e w'=>e= .returned (aq (Sg.iw z k))/\CX w' b (Sg.kH X z k)/\af b w w':=by
 by_cases c:Sg.iw z k=0
 ·exact MP b z k X w h c
 ·exact OO b z k X w h c
section
variable {P : Program}
theorem D1 (w:bD)(b o n:Nat)(ty e:TypeId)(cs:Array Value)(hc: ∀j,j<cs.size->w.cell? ⟨b,o+j,none⟩=cs[j]?)
  (hu:P.underlying ty=some (.array n e)) (hi:(P.info? ty).map (·.size)=some cs.size):(loadVar ty ⟨b,o,none⟩).run P w= .ok (.agg cs) w:=by
 have hl:=run_loadCells_list (P:=P) w ⟨b,o,none⟩ cs.toList (fun j v hv=>by
  rw[aM]at hv;rw[qG,hc j (aX.1 hv).1,hv])
 rw[aB,Array.toArray_toList]at hl;obtain⟨i,hq,hs⟩:=Option.map_eq_some_iff.1 hi;have ha:(isAgg ty).run P w= .ok true w:=by unfold isAgg;rw[Sem.run_bind,run_underlying hu w];simp
 simp[loadVar,Sem.run_bind,ha,sizeOf,typeInfo,hq,hs,hl]
theorem jb {ops:Array Oper}{rest:List Oper}{x:Oper}{a:Act}{w:bD}{Q:Exit->Act->bD->Prop}(hgd:x.guard=none)(ty:TypeId)(y:Operand)(ho:x.op= .load ty y)
  (b o:Nat) (hx:a.eval y= .pointer (some ⟨b,o,none⟩)) (cs:Array Value) (n:Nat) (e:TypeId) (hc: ∀j,j<cs.size->w.cell? ⟨b,o+j,none⟩=cs[j]?)
  (hu:P.underlying ty=some (.array n e)) (hi:(P.info? ty).map (·.size)=some cs.size)
  (h:wpList P ops Q rest (a.put x.dst (.agg cs)) w):wpList P ops Q (x::rest) a w:=
 wpList_plain hgd fun _ hK=>by
  have:=D1 w b o n ty e cs hc hu hi;unfold Oper.wp execOp;simp only[ho,hx,Instr.loadAt,Instr.sureAddr,Sem.run_bind,Sem.run_pure,Result.andThen_ok,this];exact hK _ _ h
end
def fQ (X:Nat->S1):Array Value:=((List.range 24).map fun o=>Sg.dC (X (o/3+1)) (o%3)).toArray
theorem lM (X:Nat->S1):(fQ X).size=24:=by simp[fQ]
theorem xv (X:Nat->S1)(o:Nat)(h:o<24):(fQ X)[o]? =some (Sg.dC (X (o/3+1)) (o%3)):=by simp[fQ,h]
theorem Nc (X:Nat->S1)(x:Nat)(h:x<8):(fQ X).extract (x*3) (x*3+3)=#[.bool (X (x+1)).wt, .bool (X (x+1)).hd, .int .i64 (X (x+1)).hw]:=by
 apply bL;intro i;rw[Array.getElem?_extract];by_cases hi:i<3
 ·rw[aJ (by rw[lM];omega),xv X _ (by omega),show(x*3+i)/3=x by omega,show(x*3+i)%3=i by omega]
  match i,hi with
  |0,_=>rfl
  |1,_=>rfl
  |2,_=>rfl
 ·rw[aI (by rw[lM];omega),aR (by simp;omega)]
theorem CX.all {w:bD}{b:Nat}{X:Nat->S1}(h:CX w b X)(j:Nat)(hj:j<(fQ X).size):w.cell? ⟨b,0+j,none⟩=(fQ X)[j]? :=by
 rw[lM]at hj;rw[xv X j hj];have:=h.dC (j/3) (by omega) (j%3) (by omega);rw[show j/3*3+j%3=0+j by omega]at this;exact this
theorem CX.Iu {w:bD}{b:Nat}{X:Nat->S1}{T:TypeId}(h:w.heap[b]? =some (.cells (fQ X) T (0,0))):CX w b X:=
 ⟨⟨_,T,h,lM X⟩,fun i hi j hj=>by
  rw[au h,xv X _ (by omega),show(i*3+j)/3=i by omega,show(i*3+j)%3=j by omega]⟩
theorem CX.congr {w:bD}{b:Nat}{X Y:Nat->S1}(h:CX w b X)(e: ∀n,1<=n->n<=8->X n=Y n):CX w b Y:=
 ⟨h.cv,fun i hi j hj=>by rw[<-e (i+1) (by omega) (by omega)];exact h.dC i hi j hj⟩
theorem Fz (X:Nat->S1)(x:Nat)(h:x<8)(w:bD):Sem.run Tryz.prog (Instr.index 233 (Value.agg (fQ X)) (Value.int IntKind.i64 x)) w= .ok (.agg #[.bool (X (x+1)).wt, .bool (X (x+1)).hd, .int .i64 (X (x+1)).hw]) w:=by
 have hu:Tryz.prog.underlying 233=some (.array 8 232):=by kernel_rfl
 have hx:=Nc X x h;have h1:(x:Int)<8:=by omega
 simp[Instr.index,Sem.run_bind,run_underlying hu,go_sem,hx];intro c;omega
theorem Hg (X:Nat->S1):Tryz.prog.built 235 [(0, .agg (fQ X))]=some (fQ X):=by kernel_rfl
theorem zN:Tryz.prog.built 235 []=some (fQ Sg.fj):=by kernel_rfl
section
variable {ops : Array Oper} {rest : List Oper} {x : Oper} {a : Act} {w : bD} {Q : Exit -> Act -> bD -> Prop}
theorem Cd (A:Array Value){y:Operand}(hgd:x.guard=none)(ho:x.op= .build 235 #[(0,y)])(hy:a.eval y= .agg A)(hb:Tryz.prog.built 235 [(0, .agg A)]=some A)(h:wpList Tryz.prog ops Q rest (a.put x.dst (.agg A)) w):wpList Tryz.prog ops Q (x::rest) a w:=
 wpList_build hgd 235 #[(0,y)] ho (by simp[hy,hb]) (by simpa[hy,hb]using h)
theorem Av (hgd:x.guard=none)(ho:x.op= .build 235 #[])(h:wpList Tryz.prog ops Q rest (a.put x.dst (.agg (fQ Sg.fj))) w):wpList Tryz.prog ops Q (x::rest) a w:=
 wpList_build hgd 235 #[] ho (by simp[zN]) (by simpa[zN]using h)
end
def Sg.lU (n:Nat):Bool:=decide (0<n)
theorem pG (b:Nat)(k:Int)(X:Nat->S1)(w:bD)(h:CX w b X):
  Calls Tryz.prog 176 #[.pointer (some ⟨b,0,none⟩), .int .i64 k] w fun e w'=> ∃n:Nat,e= .returned (.tuple #[.int .i64 n, .bool (Sg.lU n)])/\Sg.dO X k n/\Below w.heap.size w w':=by
 have HS:=hZ h;clear h;have hsz:Hid ((Tryz.prog.info? 233).map (·.size)=some (fQ X).size):=hZ (by rw[lM];kernel_rfl);go_in
 go_wp2_with (refine jb rfl 233 _ rfl b 0 rfl (fQ X) 8 232 HS.out.all (by kernel_rfl) hsz.out ?_)
 go_loopw [12] (fun i wr=> ∃(x:Nat),i= .int .i64 x/\x<=8/\Hid (Below w.heap.size w wr/\ ∀j,1<=j->j<x+1->Sg.ok X k j=false)) (fun i _=>8-(intOf i).toNat)
 case atStart=>exact⟨0,rfl,by omega,aQ _ _,fun j h1 h2=>by omega⟩
 case round=>
  obtain⟨x,rfl,hx8,HN⟩:=hrel;by_cases hx:x<8
  ·have hxI:(x:Int)<8:=by omega
   have hix:=Fz X x hx wr;have HKB:Hid (Sg.ok X k (x+1)=((X (x+1)).wt&& !(X (x+1)).hd&&decide ((X (x+1)).hw=k))):=hZ rfl;generalize (X (x+1)).wt=ww at*;generalize (X (x+1)).hd=hh at*;generalize (X (x+1)).hw=kk at*;have BL:Hid (∀o,Below w.heap.size w (wr.alloc o)):=hZ (fun o=>HN.out.1.alloc HN.out.1.size o);have NX:Hid (Sg.ok X k (x+1)=false-> ∀j,1<=j->j<x+1+1->Sg.ok X k j=false):=hZ (fun c j h1 hj=>by
    by_cases e:j=x+1
    ·rw[e];exact c
    ·exact HN.out.2 j h1 (by omega))
   cases ww
   ·go_wp2
    go_roundw
    case rel=>exact⟨x+1,by go_num,by omega,BL.out _,NX.out (by rw[HKB.out];rfl)⟩
    case measure=>simp[intOf];omega
   ·cases hh
    ·by_cases hi:kk=k
     ·subst hi;go_wp2
      go_ret2
      exact⟨x+1,rfl, .inr ⟨by omega,by omega,by rw[HKB.out];simp,HN.out.2⟩,BL.out _⟩
     ·have hi':(kk==k)=false:=by simp;exact hi
      go_wp2
      go_roundw
      case rel=>exact⟨x+1,by go_num,by omega,BL.out _,NX.out (by rw[HKB.out,aT hi];simp)⟩
      case measure=>simp[intOf];omega
    ·go_wp2
     go_roundw
     case rel=>exact⟨x+1,by go_num,by omega,BL.out _,NX.out (by rw[HKB.out];rfl)⟩
     case measure=>simp[intOf];omega
  ·have hxI: ¬(x:Int)<8:=by omega
   go_wp2
   go_ret2
   exact⟨0,rfl, .inl ⟨rfl,fun j h1 h2=>HN.out.2 j h1 (by omega)⟩,HN.out.1⟩
theorem BQ (b:Nat)(X:Nat->S1)(w:bD)(h:CX w b X):
  Calls Tryz.prog 175 #[.pointer (some ⟨b,0,none⟩)] w fun e w'=> ∃n:Nat,e= .returned (.tuple #[.int .i64 n, .bool (Sg.lU n)])/\Sg.dO X 0 n/\Below w.heap.size w w':=by
 have HF:=hZ h;clear h;go_in
 go_wp2_with fail
 refine(pG b 0 X _ HF.out).mono ?_;rintro e w1 ⟨n,rfl,hn,hb⟩;have HN:=hZ hn;have HB:=hZ hb;clear hn hb;go_wp2
 go_ret2
 exact⟨n,rfl,HN.out,HB.out⟩
theorem Ki (b:Nat)(X:Nat->S1)(w:bD)(h:CX w b X):
  Calls Tryz.prog 103 #[.pointer (some ⟨b,0,none⟩)] w fun e w'=> ∃n:Nat,e= .returned (.tuple #[.int .i64 n, .bool (Sg.lU n)])/\Sg.dO X 2 n/\CX w' b (Sg.sL X n)/\af b w w':=by
 have HF:=hZ h;clear h;go_in
 go_wp2_with fail
 refine(pG b 2 X _ HF.out).mono ?_;rintro e w1 ⟨n,rfl,hn,hb⟩;have HN:=hZ hn;have HB:=hZ (af.bB (b:=b) hb);have H1:=hZ (HF.out.below hb HF.out.lt);have n8:=hn.le;clear hn hb;have nn:n=0\/n=1\/n=2\/n=3\/n=4\/n=5\/n=6\/n=7\/n=8:=by omega
 have FIN:Hid (∀i,i<8->n=i+1->CX (w1.setCell ⟨b,i*3,none⟩ (.bool false)) b (Sg.sL X n)):=hZ (fun i hi e=>by
  have:=H1.out.setW i hi false;unfold Sg.sL;rw[aI (by omega),e];exact this)
 have CL:Hid (∀i,i<8->n=i+1->w1.cell? ⟨b,i*3,none⟩=some (.bool (X (i+1)).wt)/\w1.frozen? ⟨b,i*3,none⟩=false):=hZ (fun i hi _=>⟨H1.out.wt i hi,H1.out.frozen _⟩);rcases nn with rfl|rfl|rfl|rfl|rfl|rfl|rfl|rfl|rfl
 ·rw[show Sg.lU 0=false from rfl];go_wp2
  go_ret2
  exact⟨0,rfl,HN.out,H1.out,HB.out⟩
 ·have c0:w1.cell? ⟨b,0,none⟩=some (.bool (X 1).wt):=(CL.out 0 (by omega) rfl).1;have fz:w1.frozen? ⟨b,0,none⟩=false:=(CL.out 0 (by omega) rfl).2;rw[show Sg.lU 1=true from rfl];go_wp2
  go_ret2
  exact⟨1,rfl,HN.out,FIN.out 0 (by omega) rfl,HB.out.setCell _ _⟩
 ·have c0:w1.cell? ⟨b,3,none⟩=some (.bool (X 2).wt):=(CL.out 1 (by omega) rfl).1;have fz:w1.frozen? ⟨b,3,none⟩=false:=(CL.out 1 (by omega) rfl).2;rw[show Sg.lU 2=true from rfl];go_wp2
  go_ret2
  exact⟨2,rfl,HN.out,FIN.out 1 (by omega) rfl,HB.out.setCell _ _⟩
 ·have c0:w1.cell? ⟨b,6,none⟩=some (.bool (X 3).wt):=(CL.out 2 (by omega) rfl).1;have fz:w1.frozen? ⟨b,6,none⟩=false:=(CL.out 2 (by omega) rfl).2;rw[show Sg.lU 3=true from rfl];go_wp2
  go_ret2
  exact⟨3,rfl,HN.out,FIN.out 2 (by omega) rfl,HB.out.setCell _ _⟩
 ·have c0:w1.cell? ⟨b,9,none⟩=some (.bool (X 4).wt):=(CL.out 3 (by omega) rfl).1;have fz:w1.frozen? ⟨b,9,none⟩=false:=(CL.out 3 (by omega) rfl).2;rw[show Sg.lU 4=true from rfl];go_wp2
  go_ret2
  exact⟨4,rfl,HN.out,FIN.out 3 (by omega) rfl,HB.out.setCell _ _⟩
 ·have c0:w1.cell? ⟨b,12,none⟩=some (.bool (X 5).wt):=(CL.out 4 (by omega) rfl).1;have fz:w1.frozen? ⟨b,12,none⟩=false:=(CL.out 4 (by omega) rfl).2;rw[show Sg.lU 5=true from rfl];go_wp2
  go_ret2
  exact⟨5,rfl,HN.out,FIN.out 4 (by omega) rfl,HB.out.setCell _ _⟩
 ·have c0:w1.cell? ⟨b,15,none⟩=some (.bool (X 6).wt):=(CL.out 5 (by omega) rfl).1;have fz:w1.frozen? ⟨b,15,none⟩=false:=(CL.out 5 (by omega) rfl).2;rw[show Sg.lU 6=true from rfl];go_wp2
  go_ret2
  exact⟨6,rfl,HN.out,FIN.out 5 (by omega) rfl,HB.out.setCell _ _⟩
 ·have c0:w1.cell? ⟨b,18,none⟩=some (.bool (X 7).wt):=(CL.out 6 (by omega) rfl).1;have fz:w1.frozen? ⟨b,18,none⟩=false:=(CL.out 6 (by omega) rfl).2;rw[show Sg.lU 7=true from rfl];go_wp2
  go_ret2
  exact⟨7,rfl,HN.out,FIN.out 6 (by omega) rfl,HB.out.setCell _ _⟩
 ·have c0:w1.cell? ⟨b,21,none⟩=some (.bool (X 8).wt):=(CL.out 7 (by omega) rfl).1;have fz:w1.frozen? ⟨b,21,none⟩=false:=(CL.out 7 (by omega) rfl).2;rw[show Sg.lU 8=true from rfl];go_wp2
  go_ret2
  exact⟨8,rfl,HN.out,FIN.out 7 (by omega) rfl,HB.out.setCell _ _⟩
def Sg.gU (X:Nat->S1)(k:Nat):Nat->S1:=fun n=>if n<=k/\0<n then⟨false,(X n).hd,(X n).hw⟩else X n
theorem Sg.Jl (X:Nat->S1):Sg.gU X 0=X:=by
 funext n;unfold Sg.gU;rw[aI (by omega)]
theorem Sg.IX (X:Nat->S1)(k:Nat):Sg.put (Sg.gU X k) (k+1) ⟨false,(Sg.gU X k (k+1)).hd,(Sg.gU X k (k+1)).hw⟩=Sg.gU X (k+1):=by
 funext n;unfold Sg.put;by_cases e:n=k+1
 ·rw[aJ e,e];unfold Sg.gU;rw[aI (by omega),aJ (by omega)]
 ·rw[aI e];unfold Sg.gU;by_cases c:n<=k/\0<n
  ·rw[aJ c,aJ (by omega)]
  ·rw[aI c,aI (by omega)]
theorem Sg.Hh (X:Nat->S1)(n:Nat)(h1:1<=n)(h8:n<=8):Sg.gU X 8 n=Sg.oO X n:=by
 unfold Sg.gU Sg.oO;rw[aJ ⟨h8,by omega⟩]
theorem G4 (b:Nat)(X:Nat->S1)(w:bD)(h:CX w b X):
  Calls Tryz.prog 145 #[.pointer (some ⟨b,0,none⟩)] w fun e w'=>e= .returned (.pointer (some ⟨w.heap.size,0,none⟩))/\CX w' w.heap.size (Sg.oO X)/\Below w.heap.size w w'/\w.heap.size<w'.heap.size:=by
 have HS:=hZ h;clear h;have hsz:Hid ((Tryz.prog.info? 233).map (·.size)=some (fQ X).size):=hZ (by rw[lM];kernel_rfl);have BT:Hid (Tryz.prog.built 235 [(0, .agg (fQ X))]=some (fQ X)):=hZ (Hg X);have ST:Hid (CX (w.alloc (.cells (fQ X) 235)) w.heap.size X/\Below w.heap.size w (w.alloc (.cells (fQ X) 235))):=hZ ⟨CX.Iu (heap_alloc_new w _),(aQ _ _).alloc (aL _) _⟩;obtain⟨A,hA⟩:=nJ (fQ X);have AL:Hid (∀j,j<A.size->w.cell? ⟨b,0+j,none⟩=A[j]?):=hZ (by rw[<-hA];exact HS.out.all);rw[hA]at hsz BT ST;clear hA;go_in
 go_upto_region 2 with(first|(refine jb rfl 233 _ rfl b 0 rfl A 8 232 AL.out (by kernel_rfl) hsz.out ?_)|(refine Cd A rfl rfl rfl BT.out ?_))
 refine bw (fun W'=>CX W' w.heap.size X/\Below w.heap.size w W') ST.out ?_;rintro W1 ⟨f1,b1⟩;have S0:Hid (CX W1 w.heap.size (Sg.gU X 0)/\Below w.heap.size w W1):=hZ ⟨by rw[Sg.Jl];exact f1,b1⟩;clear f1 b1;obtain⟨c,hc⟩:=nJ (w.heap.size);have HC:=hZ hc;rw[hc]at S0|-;clear hc ST AL hsz BT;go_wp2_with fail
 go_loopw [11] (fun i wr=> ∃(x:Nat),i= .int .i64 x/\x<=8/\Hid (CX wr c (Sg.gU X x)/\Below c w wr)) (fun i _=>8-(intOf i).toNat)
 case atStart=>exact⟨0,rfl,by omega,S0⟩
 case round=>
  clear S0;obtain⟨x,rfl,hx8,HN⟩:=hrel;by_cases hx:x<8
  ·have hxI:(x:Int)<8:=by omega
   have c0:=HN.out.1.wt x hx;have fz:=HN.out.1.frozen (x*3);have NX:Hid (CX (wr.setCell ⟨c,x*3,none⟩ (.bool false)) c (Sg.gU X (x+1))/\Below c w (wr.setCell ⟨c,x*3,none⟩ (.bool false))):=hZ ⟨by
    have:=HN.out.1.setW x hx false;rw[Sg.IX]at this;exact this,HN.out.2.setCell (aL _) _⟩
   go_wp2
   go_roundw
   case rel=>exact⟨x+1,by go_num,by omega,NX⟩
   case measure=>simp[intOf];omega
  ·have hxI: ¬(x:Int)<8:=by omega
   obtain rfl:x=8:=by omega
   go_wp2
   go_ret
   rw[HC.out];exact⟨rfl,HN.out.1.congr (Sg.Hh X),HN.out.2,HN.out.1.lt⟩
